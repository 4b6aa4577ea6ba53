/-
  Proved: contracts of functions, plain facts. Conditions: as each says.
-/
import Derived.Test.YtakceggnadagmaaGreatDoorPq02
import Derived.Test.YtakceggnadagmaaGreatDoorPq01
import Derived.Lib.OthersKept
import Derived.Shelf.Strings.BuilderRune
import Derived.BigCall
import Derived.Deep.RegionLaw
import Derived.OneCell
namespace Go.Proofs.YtakceggnadagmaaGreatDoor
open Go Go.RowKit GlyphMath LexMath
def lcells (sz:Nat):List Nat→List Value
  | []=> [.int .i32 0,.int .i64 (sz:Int)]
  |c::r=> .int .i32 (c:Int):: .int .i64 ((sz-(enc (c::r)).length:Nat):Int)::lcells sz r
theorem lcells_drop (sz:Nat):∀(k:Nat) (xs:List Nat),k≤xs.length→(lcells sz xs).drop (2*k)=lcells sz (xs.drop k)
  |0,_,_=>rfl
  |k+1,[],h=>by simp at h
  |k+1,c::r,h=>by
    rw[show 2*(k+1)=2*k+2 by omega];simp only[lcells,List.drop_succ_cons];exact lcells_drop sz k r (by simpa using h)
theorem lcells_next (sz:Nat) (xs:List Nat):(lcells sz xs)[0]? =some (.int .i32 (next xs:Int)):=by cases xs<;>rfl
theorem lcells_at (sz:Nat) (xs:List Nat):(lcells sz xs)[1]? =some (.int .i64 ((sz-(enc xs).length:Nat):Int)):=by cases xs<;>rfl
structure RdO (w:World) (X G sz o c:Nat) (xs:List Nat):Prop where
  head:w.heap[X]? =some (.cells #[.slice (some ⟨G,o,none⟩) (xs.length+1) c] 123 (0,0))
  cap:xs.length+1≤c
  row:w.rangeAt G o (lcells sz xs)
  ne:X≠G
  good:∀x∈xs,GoodL x
  few:xs.length≤2000
def Rd (w:World) (X G sz:Nat) (xs:List Nat):Prop:=∃o c,RdO w X G sz o c xs
theorem RdO.cell0 {w:World} {X G sz o c:Nat} {xs:List Nat} (h:RdO w X G sz o c xs):w.cell? ⟨X,0,none⟩=some (.slice (some ⟨G,o,none⟩) (xs.length+1) c):=by rw[cell_plain h.head];rfl
theorem RdO.frozen0 {w:World} {X G sz o c:Nat} {xs:List Nat} (h:RdO w X G sz o c xs):w.frozen? ⟨X,0,none⟩=false:=frozen_plain h.head 0
theorem RdO.next0 {w:World} {X G sz o c:Nat} {xs:List Nat} (h:RdO w X G sz o c xs):w.cell? ⟨G,o,none⟩=some (.int .i32 (next xs:Int)):=by
  simpa using h.row 0 _ (lcells_next sz xs)
theorem RdO.at0 {w:World} {X G sz o c:Nat} {xs:List Nat} (h:RdO w X G sz o c xs):w.cell? ⟨G,o+1,none⟩=some (.int .i64 ((sz-(enc xs).length:Nat):Int)):=h.row 1 _ (lcells_at sz xs)
theorem RdO.letter {w:World} {X G sz o c:Nat} {xs:List Nat} (h:RdO w X G sz o c xs) (k:Nat) (hk:k≤xs.length):w.cell? ⟨G,o+k*2,none⟩=some (.int .i32 (next (xs.drop k):Int)):=by
  have e:(lcells sz xs)[k*2]? =some (.int .i32 (next (xs.drop k):Int)):=by
    rw[←lcells_next sz,←lcells_drop sz k xs hk,List.getElem?_drop,Nat.mul_comm,Nat.add_zero]
  exact h.row _ _ e
theorem next_lt0 {xs:List Nat} (h:∀x∈xs,GoodL x):next xs=0∨GoodL (next xs):=by
  cases xs with
  |nil=>exact .inl rfl
  |cons a r=>exact .inr (h a (by simp))
theorem RdO.drop {w:World} {X G sz o c:Nat} {xs:List Nat} (h:RdO w X G sz o c xs) (k:Nat) (hk:k≤xs.length):
    RdO (w.setCell ⟨X,0,none⟩ (.slice (some ⟨G,o+k*2,none⟩) ((xs.drop k).length+1) (c-k))) X G sz (o+k*2) (c-k) (xs.drop k):=by
  refine⟨heap_set_one h.head _,?_,fun j v hj=> ?_,h.ne,fun x hx=>h.good x (List.mem_of_mem_drop hx),by have:=h.few;simp;omega⟩
  · have:=h.cap;simp;omega
  · rw[←lcells_drop sz k xs hk,List.getElem?_drop]at hj
    rw[World.cell?_of_block (Below.heap_setCell _ _ _ _ (fun e=>h.ne e.symm)),Nat.add_assoc,Nat.mul_comm];exact h.row _ _ hj
theorem RdO.kept {D:Nat→Prop} {w w':World} {X G sz o c:Nat} {xs:List Nat} (h:RdO w X G sz o c xs) (hk:Kept D w w') (hX:¬D X) (hG:¬D G):RdO w' X G sz o c xs:=
  ⟨hk.heap h.head hX,h.cap,fun j v hj=>hk.cell (h.row j v hj) hG,h.ne,h.good,h.few⟩
theorem Rd.kept {D:Nat→Prop} {w w':World} {X G sz:Nat} {xs:List Nat} (h:Rd w X G sz xs) (hk:Kept D w w') (hX:¬D X) (hG:¬D G):Rd w' X G sz xs:=by
  obtain⟨o,c,h⟩:=h;exact⟨o,c,h.kept hk hX hG⟩
theorem Rd.good {w:World} {X G sz:Nat} {xs:List Nat} (h:Rd w X G sz xs):∀x∈xs,GoodL x:=by
  obtain⟨o,c,h⟩:=h;exact h.good
theorem Rd.few {w:World} {X G sz:Nat} {xs:List Nat} (h:Rd w X G sz xs):xs.length≤2000:=by
  obtain⟨o,c,h⟩:=h;exact h.few
theorem Rd.lt {w:World} {X G sz:Nat} {xs:List Nat} (h:Rd w X G sz xs):X<w.heap.size∧G<w.heap.size:=by
  obtain⟨o,c,h⟩:=h;exact⟨(gS.1 h.head).1,World.block_lt_of_cell? w _ h.next0⟩
structure RowO (w:World) (B W:Nat) (v:Value) (vs:List Value) (F:Nat→Prop) (ps:List Pt):Prop where
  head:w.heap[W]? =some (.cells #[v] 151 (0,0))
  base:B≤W
  own:w.ownsRow B 113 5 v ps.length (rowCells ps vs)
  len:ps.length=vs.length
  sub:∀(j:Nat) (p:Pt) (u:Value),ps[j]? =some p→vs[j]? =some u→WordV w F u p.word
  far:∀g,F g→B≤g∧g<w.heap.size∧g≠W∧v.ownBlock≠some g
  ne:v.ownBlock≠some W
def RowAt (w:World) (B W:Nat) (ps:List Pt):Prop:=∃v vs F,RowO w B W v vs F ps
theorem RowO.cell0 {w:World} {B W:Nat} {v:Value} {vs:List Value} {F:Nat→Prop} {ps:List Pt} (h:RowO w B W v vs F ps):w.cell? ⟨W,0,none⟩=some v:=by rw[cell_plain h.head];rfl
theorem RowO.frozen0 {w:World} {B W:Nat} {v:Value} {vs:List Value} {F:Nat→Prop} {ps:List Pt} (h:RowO w B W v vs F ps):w.frozen? ⟨W,0,none⟩=false:=frozen_plain h.head 0
theorem RowO.lt {w:World} {B W:Nat} {v:Value} {vs:List Value} {F:Nat→Prop} {ps:List Pt} (h:RowO w B W v vs F ps):W<w.heap.size:=(gS.1 h.head).1
theorem RowO.kept {D:Nat→Prop} {w w':World} {B W:Nat} {v:Value} {vs:List Value} {F:Nat→Prop} {ps:List Pt} (h:RowO w B W v vs F ps) (hk:Kept D w w') (hD:∀k,B≤k→k<w.heap.size→¬D k):RowO w' B W v vs F ps where
  head:=hk.heap h.head (hD W h.base h.lt)
  base:=h.base
  own:=ownsRow_same h.own fun g hg=>hk.block g (World.ownsRow.lt h.own g hg).2 (hD g (World.ownsRow.lt h.own g hg).1 (World.ownsRow.lt h.own g hg).2)
  len:=h.len
  sub:=fun j p u hp hu=>(h.sub j p u hp hu).same fun g hg=>hk.block g (h.far g hg).2.1 (hD g (h.far g hg).1 (h.far g hg).2.1)
  far:=fun g hg=>⟨(h.far g hg).1,Nat.lt_of_lt_of_le (h.far g hg).2.1 hk.size,(h.far g hg).2.2⟩
  ne:=h.ne
theorem RowAt.kept {D:Nat→Prop} {w w':World} {B W:Nat} {ps:List Pt} (h:RowAt w B W ps) (hk:Kept D w w') (hD:∀k,B≤k→k<w.heap.size→¬D k):RowAt w' B W ps:=by
  obtain⟨v,vs,F,h⟩:=h;exact⟨v,vs,F,h.kept hk hD⟩
theorem RowAt.lt {w:World} {B W:Nat} {ps:List Pt} (h:RowAt w B W ps):B≤W∧W<w.heap.size:=by
  obtain⟨v,vs,F,h⟩:=h;exact⟨h.base,h.lt⟩
theorem RowAt.new (w:World):RowAt (w.alloc (.cells #[.slice none 0 0] 151)) w.heap.size w.heap.size []:=
  ⟨_,[],fun _=>False,⟨heap_alloc_new w _,Nat.le_refl _,World.ownsRow_nil _ _ _ _,rfl,fun _ _ _ h=>by simp at h,fun _ h=>h.elim,by simp[Value.ownBlock]⟩⟩
theorem RowO.word {w:World} {B W:Nat} {v:Value} {vs:List Value} {F:Nat→Prop} {ps:List Pt} (h:RowO w B W v vs F ps):WordN w B v ps:=
  ⟨fun g=>F g∨v.ownBlock=some g,.row v ps vs (ownsRow_base h.own fun _ _=>Nat.zero_le _) h.len (fun _ hg=> .inr hg) (fun j p u hp hu=>(h.sub j p u hp hu).mono fun _ h=> .inl h),fun g hg=>hg.elim (fun hg=>⟨(h.far g hg).1,(h.far g hg).2.1⟩) fun hg=>World.ownsRow.lt h.own g hg⟩
theorem next_any {w:World} {X G sz:Nat} {xs:List Nat} (h:Rd w X G sz xs):
    Calls Tryz.prog 72 #[.pointer (some ⟨X,0,none⟩)] w fun e w'=>e= .returned (.int .i32 (next xs:Int))∧w=w':=by
  obtain⟨o,c,h⟩:=h;have c0:=h.cell0;have c1:=h.next0;obtain⟨N,hN⟩:∃N,xs.length+1=N:=⟨_,rfl⟩;rw[hN]at c0;have hN0:(0:Int)<(N:Int):=(by omega);clear hN h;go_enter Tryz.func72,Tryz.ntmps72;go_wp2_with fail;go_ret;exact⟨rfl,rfl⟩
theorem at_any {w:World} {X G sz:Nat} {xs:List Nat} (h:Rd w X G sz xs):
    Calls Tryz.prog 42 #[.pointer (some ⟨X,0,none⟩)] w fun e w'=>e= .returned (.int .i64 ((sz-(enc xs).length:Nat):Int))∧w=w':=by
  obtain⟨o,c,h⟩:=h;have c0:=h.cell0;have c1:=h.at0;obtain⟨N,hN⟩:∃N,xs.length+1=N:=⟨_,rfl⟩;obtain⟨A,hA⟩:∃A,(sz-(enc xs).length:Nat)=A:=⟨_,rfl⟩;rw[hN]at c0;rw[hA]at c1 ⊢;have hN0:(0:Int)<(N:Int):=(by omega);clear hN h hA;go_enter Tryz.func42,Tryz.ntmps42;go_wp2_with fail;go_ret;exact⟨rfl,rfl⟩
def RStep (w w':World) (X G sz:Nat) (xs:List Nat):Prop:=Rd w' X G sz xs∧Kept (fun k=>k=X) w w'
theorem take_any {w:World} {X G sz:Nat} {xs:List Nat} (h:Rd w X G sz xs):
    Calls Tryz.prog 97 #[.pointer (some ⟨X,0,none⟩)] w fun e w'=>e= .returned (.int .i32 (next xs:Int))∧RStep w w' X G sz xs.tail:=by
  have HN:=yH (next_any h);obtain⟨o,c,h⟩:=h
  cases xs with
  |nil=>
    have HH:=yH h;clear h;go_enter Tryz.func97,Tryz.ntmps97
    go_wp2_with (go_at_call 72;refine HN.out.mono ?_;rintro e w1 ⟨rfl,rfl⟩;simp only[next])
    go_ret;exact⟨rfl,⟨o,c,HH.out⟩,Kept.refl _ _⟩
  |cons x r=>
    have c0:=h.cell0;have f0:=h.frozen0;have hd:=h.drop 1 (by simp);simp only[List.drop_succ_cons,List.drop_zero,Nat.one_mul]at hd
    have hx:((x:Int) !=0)=true:=by
      have:=(h.good x (by simp)).1;have:¬(x:Int)=0:=(by omega)
      simpa using this
    have hc:=h.cap;simp only[List.length_cons]at c0 hc;obtain⟨N,hN⟩:∃N,r.length+1+1=N:=⟨_,rfl⟩;rw[hN]at c0 hc;have h1:(1:Int)≤(N:Int):=(by omega);have h2:(N:Int)≤(c:Int):=(by omega);have h3:(1:Int)<(c:Int):=(by omega)
    have h4:(c-1==0)=false:=by
      have:¬c-1=0:=by omega
      simpa using this
    have HD:=yH hd;have HE:=yH (show N-1=r.length+1 by omega);clear h hd hN hc;go_enter Tryz.func97,Tryz.ntmps97
    go_wp2_with (go_at_call 72;refine HN.out.mono ?_;rintro e w1 ⟨rfl,rfl⟩;simp only[next])
    go_ret;exact⟨rfl,⟨o+2,c-1,by rw[HE.out];exact HD.out⟩,Kept.setCell (D:=fun k=>k=X) (Kept.refl _ _) (.inl rfl) _⟩
theorem RStep.refl {w:World} {X G sz:Nat} {xs:List Nat} (h:Rd w X G sz xs):RStep w w X G sz xs:=⟨h,Kept.refl _ _⟩
theorem RStep.trans {w w1 w2:World} {X G sz:Nat} {xs ys:List Nat} (h:RStep w w1 X G sz xs) (k:RStep w1 w2 X G sz ys):RStep w w2 X G sz ys:=⟨k.1,h.2.on k.2⟩
theorem RStep.below {w w1 w2:World} {X G sz:Nat} {xs:List Nat} (h:RStep w w1 X G sz xs) (k:Below w1.heap.size w1 w2):RStep w w2 X G sz xs:=
  ⟨h.1.kept (D:=fun _=>False) (Kept.of_below k) (fun h=>h) (fun h=>h),h.2.on (Kept.of_below k)⟩
theorem Rd.below {w w':World} {X G sz:Nat} {xs:List Nat} (h:Rd w X G sz xs) (k:Below w.heap.size w w'):Rd w' X G sz xs:=
  h.kept (D:=fun _=>False) (Kept.of_below k) (fun h=>h) (fun h=>h)
theorem takes_step (ps xs:List Nat) (k:Nat) (c:Nat) (hk:ps[k]? =some c) (h0:c≠0):
    (next (xs.drop k)=c→takes (ps.drop k) (xs.drop k)=takes (ps.drop (k+1)) (xs.drop (k+1))∧k<xs.length)∧(next (xs.drop k)≠c→takes (ps.drop k) (xs.drop k)=none):=by
  have e:ps.drop k=c::ps.drop (k+1):=by
    obtain⟨h1,h2⟩:=List.getElem?_eq_some_iff.1 hk;rw[List.drop_eq_getElem_cons h1,h2]
  rw[e]
  by_cases hx:k<xs.length
  · rw[List.drop_eq_getElem_cons hx]
    simp only[next];refine⟨fun h=>⟨?_,hx⟩,fun h=> ?_⟩
    · rw[show takes (c::ps.drop (k+1)) (xs[k]::xs.drop (k+1))=if c=xs[k]then takes (ps.drop (k+1)) (xs.drop (k+1))else none from rfl,if_pos h.symm]
    · rw[show takes (c::ps.drop (k+1)) (xs[k]::xs.drop (k+1))=if c=xs[k]then takes (ps.drop (k+1)) (xs.drop (k+1))else none from rfl,if_neg (fun h'=>h h'.symm)]
  · rw[List.drop_eq_nil_of_le (by omega)]
    refine⟨fun h=>absurd h.symm h0,fun _=>rfl⟩
set_option maxHeartbeats 1000000 in
theorem takes_any (p:ByteArray) (ps:List Nat) (hp:p.data.toList.map (·.toNat)=ps) (hlow:∀b∈p.data.toList,0<b.toNat∧b.toNat<128) {w:World} {X G sz:Nat} {xs:List Nat} (h:Rd w X G sz xs):
    Calls Tryz.prog 99 #[.pointer (some ⟨X,0,none⟩),.string p] w fun e w'=>e= .returned (.bool (takes ps xs).isSome)∧RStep w w' X G sz ((takes ps xs).getD xs):=by
  obtain⟨o,c,h⟩:=h;have HH:=yH h;have HP:=yH hp;have HL:=yH hlow;have HS:=yH (show p.size=ps.length by rw[←hp,List.length_map];rfl);clear h hp hlow;have hit:∀k,Below w.heap.size w (w.iter p k):=fun k=>below_iter w p k;have HI:=yH hit;clear hit;go_enter Tryz.func99,Tryz.ntmps99;go_wp2_with fail
  go_loopw [5] (fun i wr=> ∃k:Nat,i= .int .i64 (k:Int)∧wr=w.iter p k∧k≤xs.length∧k≤ps.length∧takes ps xs=takes (ps.drop k) (xs.drop k)) (fun _ wr=>p.size-wr.iterPos w.heap.size)
  case atStart=>exact⟨0,rfl,rfl,Nat.zero_le _,Nat.zero_le _,rfl⟩
  case round=>
    obtain⟨k,rfl,rfl,hkx,hkp,ht⟩:=hrel
    by_cases hpk:k<p.size
    · obtain⟨b,hb⟩:∃b,(p[k]'hpk).toNat=b:=⟨_,rfl⟩
      have hmem:p[k]'hpk∈p.data.toList:=by
        rw[ByteArray.getElem_eq_getElem_data];exact Array.getElem_mem_toList ..
      have hbl:=HL.out _ hmem;rw[hb]at hbl;have hnx:∀ty,(Instr.next (.pointer (some ⟨w.heap.size,0,none⟩)) true ty).run Tryz.prog (w.iter p k)= .ok (.tuple #[.bool true,.int .i64 k,.int .i32 (b:Int)]) (w.iter p (k+1)):=fun ty=>(by rw[run_next_any w p k ty hpk,decode_ascii p k hpk (by rw[hb];exact hbl.2),hb])
      have hps:ps[k]? =some b:=by
        rw[←HP.out,List.getElem?_map,List.getElem?_eq_getElem (by rw[Array.length_toList];exact hpk)];simp only[Option.map_some,Option.some.injEq];rw[←hb,ByteArray.getElem_eq_getElem_data,Array.getElem_toList]
      obtain⟨s1,s2⟩:=takes_step ps xs k b hps (by omega);have hR:=HH.out.kept (D:=fun _=>False) (Kept.of_below (HI.out (k+1))) (fun h=>h) (fun h=>h);have c0:=hR.cell0;have c1:=hR.letter k hkx;obtain⟨N,hN⟩:∃N,xs.length+1=N:=⟨_,rfl⟩;rw[hN]at c0;have hkN:(k:Int)<(N:Int):=(by omega);have hk1:(k:Int)+1≤9223372036854775807:=(by have:=HH.out.few;omega);obtain⟨y,hy⟩:∃y,next (xs.drop k)=y:=⟨_,rfl⟩;rw[hy]at c1 s1 s2
      by_cases hyb:y=b
      · obtain⟨t1,t2⟩:=s1 hyb
        have HT:=yH (And.intro (ht.trans t1) (And.intro t2 (show k+1≤ps.length from(List.getElem?_eq_some_iff.1 hps).1)));have hne:((y:Int) !=(b:Int))=false:=(by simp[hyb]);clear hb hmem hbl hps s1 s2 hR hN ht t1 t2 hy hyb;go_wp2_with fail
        go_roundw
        case rel=>exact⟨k+1,rfl,rfl,by have:=HT.out.2.1;omega,HT.out.2.2,HT.out.1⟩
        case measure=>simp;omega
      · have HT:=yH (ht.trans (s2 hyb))
        have HR:=yH hR
        have hne:((y:Int) !=(b:Int))=true:=by
          have:¬(y:Int)=(b:Int):=by omega
          simpa using this
        clear hb hmem hbl hps s1 s2 hR hN ht hy hyb;go_wp2_with fail;go_ret;rw[HT.out];exact⟨rfl,⟨o,c,HR.out⟩,Kept.of_below (HI.out (k+1))⟩
    · have hnx:∀ty,(Instr.next (.pointer (some ⟨w.heap.size,0,none⟩)) true ty).run Tryz.prog (w.iter p k)=_:=fun ty=>run_next_end w p k ty hpk
      have hke:k=ps.length:=(by have:=HS.out;omega);rw[hke,List.drop_length,←hke]at ht;have hR:=HH.out.kept (D:=fun _=>False) (Kept.of_below (HI.out k)) (fun h=>h) (fun h=>h);have c0:=hR.cell0;have f0:=hR.frozen0;have hd:=hR.drop k hkx;have hc:=hR.cap;obtain⟨N,hN⟩:∃N,xs.length+1=N:=⟨_,rfl⟩;rw[hN]at c0 hc;have h0:(0:Int)≤(k:Int):=(by omega);have h1:(k:Int)≤(N:Int):=(by omega);have h2:(N:Int)≤(c:Int):=(by omega);have h3:(k:Int)<(c:Int):=(by omega)
      have h4:(c-k==0)=false:=by
        have:¬c-k=0:=by omega
        simpa using this
      have HD:=yH hd;have HE:=yH (show N-k=(xs.drop k).length+1 by simp;omega);have HT:=yH (show takes ps xs=some (xs.drop k)from ht);clear hR hd hN hc ht hke hkx hkp;go_wp2_with fail;go_ret;rw[HT.out];exact⟨rfl,⟨o+k*2,c-k,by rw[HE.out];exact HD.out⟩,Kept.setCell (D:=fun k=>k=X) (Kept.of_below (HI.out k)) (.inl rfl) _⟩
set_option maxRecDepth 100000 in
theorem copyCheck_fresh (b:Nat) (w:World) (h0:w.cell? ⟨b,0,none⟩=some (.pointer none)) (hsh:w.shape? b=some (144,2)) (hfz:w.frozen? ⟨b,0,none⟩=false):
    Calls Tryz.prog 118 #[.pointer (some ⟨b,0,none⟩)] w fun e w'=>e= .returned (.tuple #[])∧w'=w.setCell ⟨b,0,none⟩ (.pointer (some ⟨b,0,none⟩)):=by
  obtain⟨j,hj,hjs⟩:=Option.map_eq_some_iff.1 (show(Tryz.prog.info? 144).map (·.size)=some 2 by kernel_rfl);go_enter Tryz.func118,Tryz.ntmps118;go_wp2_with fail;rw[Lib.run_to_unsafe w ⟨b,0,none⟩ Tryz.underlying141 Tryz.underlying180 hj (by rw[hjs];decide) hsh (Nat.zero_lt_succ 1)];simp only[Result.andThen];rw[Oper.upon_value];go_wp2_with fail;rw[run_callFunc_extern Tryz.func142 (by kernel_rfl) (by kernel_rfl) (by kernel_rfl) (e:=Extern.AbiNoEscape.same) (by kernel_rfl)];rw[Lib.run_noEscape];simp only[Result.andThen];rw[Oper.upon_value];go_wp2_with fail;rw[Lib.run_from_unsafe w ⟨b,0,none⟩ Tryz.underlying180 Tryz.underlying141 hj hsh (by kernel_rfl)];simp only[Result.andThen];rw[Oper.upon_value];go_wp2_with fail
  go_end0
  exact⟨rfl,rfl⟩
set_option maxRecDepth 100000 in
theorem copyCheck_used (b:Nat) (w:World) (h0:w.cell? ⟨b,0,none⟩=some (.pointer (some ⟨b,0,none⟩))):
    Calls Tryz.prog 118 #[.pointer (some ⟨b,0,none⟩)] w fun e w'=>e= .returned (.tuple #[])∧w'=w:=by
  obtain⟨j,hj,_⟩:=Option.map_eq_some_iff.1 (show(Tryz.prog.info? 144).map (·.size)=some 2 by kernel_rfl);go_enter Tryz.func118,Tryz.ntmps118;go_wp2_with fail;rw[Lib.run_neq_ptr_same w _ Tryz.underlying141 hj];go_wp2_with fail
  go_end0
  exact⟨rfl,rfl⟩
def Bld (w:World) (B b:Nat) (l:List UInt8):Prop:=Lib.IsBuilderF 144 5 B b (Lib.byteCells l) w
theorem copyCheck_any (B b:Nat) (l:List UInt8) (w:World) (h:Bld w B b l):
    Calls Tryz.prog 118 #[.pointer (some ⟨b,0,none⟩)] w fun e w'=>e= .returned (.tuple #[])∧Lib.BuilderAtF 144 5 B b (.pointer (some ⟨b,0,none⟩)) (Lib.byteCells l) w'∧Below B w w':=by
  rcases h with h|h
  · refine(copyCheck_fresh b w h.cell0 h.shape h.frozen0).mono ?_
    rintro e w' ⟨rfl,rfl⟩;exact⟨rfl,h.used _,(Below.refl B w).setCell (p:=⟨b,0,none⟩) h.1 _⟩
  · refine(copyCheck_used b w h.cell0).mono ?_
    rintro e w' ⟨rfl,rfl⟩;exact⟨rfl,h,Below.refl B _⟩
theorem eb_good {r:Nat} (h:GoodL r):Lib.encodeRune (r:Int)=eb r:=by
  obtain⟨h0,h1,h2⟩:=h;unfold Lib.encodeRune eb
  by_cases k1:r<128
  · rw[Lib.encodeRuneZ_one (by omega) (by omega),if_pos k1];simp[UInt8.ofNat,Int.toNat]
  · rw[if_neg k1]
    by_cases k2:r<2048
    · rw[Lib.encodeRuneZ_two (by omega) (by omega),if_pos k2]
      have e1:(192+(r:Int)/64).toNat=192+r/64:=(by omega);have e2:(128+(r:Int) % 64).toNat=128+r % 64:=(by omega);simp[e1,e2]
    · rw[if_neg k2]
      by_cases k3:r<65536
      · rw[Lib.encodeRuneZ_three (by omega),if_pos k3]
        have e1:(224+(r:Int)/4096).toNat=224+r/4096:=(by omega);have e2:(128+(r:Int)/64 % 64).toNat=128+r/64 % 64:=(by omega);have e3:(128+(r:Int) % 64).toNat=128+r % 64:=(by omega);simp[e1,e2,e3]
      · rw[Lib.encodeRuneZ_four (by omega) (by omega),if_neg k3]
        have e1:(240+(r:Int)/262144).toNat=240+r/262144:=(by omega);have e2:(128+(r:Int)/4096 % 64).toNat=128+r/4096 % 64:=(by omega);have e3:(128+(r:Int)/64 % 64).toNat=128+r/64 % 64:=(by omega);have e4:(128+(r:Int) % 64).toNat=128+r % 64:=(by omega);simp[e1,e2,e3,e4]
set_option maxHeartbeats 1000000 in
set_option maxRecDepth 100000 in
theorem writeRune_any (B b:Nat) (l:List UInt8) (r:Nat) (hr:GoodL r) (w:World) (h:Bld w B b l) (hl:l.length≤100000) (hB:B≤w.heap.size):
    Calls Tryz.prog 96 #[.pointer (some ⟨b,0,none⟩),.int .i32 (r:Int)] w fun e w'=>(∃n,e= .returned (.tuple #[.int .i64 n,.nilIface]))∧Bld w' B b (l++eb r)∧Below B w w':=by
  have HC:=yH (copyCheck_any B b l w h);have HE:=yH (eb_good hr);have hr1:=hr.2.1;have HL:=yH hl;have HBW:=yH hB;clear h hr hl hB;go_enter Tryz.func96,Tryz.ntmps96;go_wp2_with fail;refine HC.out.mono ?_;rintro e w1 ⟨rfl,h1,hb1⟩;obtain⟨hbB,v,hbk,hown,hne⟩:=h1
  obtain⟨ao,cap,rfl⟩:∃ao cap,v= .slice ao (Lib.byteCells l).length cap:=by
    rcases hown.2 with ⟨hv,h0⟩|⟨g,cap,cur,fz,hv,_⟩
    · exact⟨none,0,by rw[hv,h0]⟩
    · exact⟨_,_,hv⟩
  obtain⟨N,hN⟩:∃N,(Lib.byteCells l).length=N:=⟨_,rfl⟩;have hNl:N≤100000:=(by rw[←hN,Lib.byteCells_length];exact HL.out);rw[hN]at hown hne hbk;have c0:w1.cell? ⟨b,0,none⟩=some (.pointer (some ⟨b,0,none⟩)):=(by rw[Lib.cell_of_heap hbk];rfl);have c1:w1.cell? ⟨b,1,none⟩=some (.slice ao N cap):=(by rw[Lib.cell_of_heap hbk];rfl);have HO:=yH hown;have HNE:=yH hne;have HK:=yH hbk;have HB1:=yH hb1;have HNN:=yH hN;have HNL:=yH hNl;clear hown hne hbk hb1 hN hNl;go_wp2_with fail;refine(Tryz.utf8_AppendRune_row B _ N (Lib.byteCells l) (r:Int) (by omega) (by omega) _ HO.out (by have:=HNL.out;omega) (by have:=HB1.out.size;have:=HBW.out;omega)).mono ?_;rintro e w2 ⟨v',rfl,hown',o,hgrow⟩;have hk4:=Lib.runeCells_le (r:Int);have hlt:b<w1.heap.size:=(gS.1 HK.out).1
  have hb2:w2.heap[b]? =some (.cells #[.pointer (some ⟨b,0,none⟩),.slice ao N cap] 144 (0,0)):=by
    rw[hgrow.block b (by simp;omega) (fun e=>HNE.out e.symm),Lib.alloc_old w1 _ b hlt];exact HK.out
  have d0:w2.cell? ⟨b,0,none⟩=some (.pointer (some ⟨b,0,none⟩)):=(by rw[Lib.cell_of_heap hb2];rfl);have d1:w2.cell? ⟨b,1,none⟩=some (.slice ao N cap):=(by rw[Lib.cell_of_heap hb2];rfl);have f1:w2.frozen? ⟨b,1,none⟩=false:=Lib.frozen_of_heap hb2 1
  obtain⟨g,cap',rfl⟩:∃g cap',v'= .slice (some ⟨g,0,none⟩) (N+(Lib.runeCells (r:Int)).length) cap':=by
    rcases hown'.2 with ⟨_,h0⟩|⟨g,cap',cur,fz,hv,_⟩
    · omega
    · exact⟨g,cap',hv⟩
  have hbelow:=((Below.refl B w1).alloc (by have:=HB1.out.size;have:=HBW.out;omega) o).grown hgrow (by have:=HB1.out.size;have:=HBW.out;simp;omega) (fun k hk=>(HO.out.lt k hk).1);have HH:=yH (And.intro hown' (And.intro hb2 hbelow));clear hown' hgrow hb2 hlt hk4 hbelow;go_wp2_with fail
  go_ret2
  obtain⟨k1,k2,k3⟩:=HH.out;refine⟨⟨_,rfl⟩,.inr ?_,HB1.out.trans (k3.setCell (p:=⟨b,1,none⟩) hbB _)⟩;have e1:Lib.byteCells (l++eb r)=Lib.byteCells l++Lib.runeCells (r:Int):=(by rw[Lib.byteCells_append,←HE.out,Lib.byteCells_encodeRune]);rw[e1];have e2:N+(Lib.runeCells (r:Int)).length=(Lib.byteCells l++Lib.runeCells (r:Int)).length:=(by rw[List.length_append,HNN.out]);exact Lib.BuilderAtF.put (T:=144) (e:=5) hbB k2 (bs':=Lib.byteCells l++Lib.runeCells (r:Int)) (by rw[←e2];exact k1) (by decide)
theorem string_any (B b:Nat) (l:List UInt8) (w:World) (h:Bld w B b l) (hB:B≤w.heap.size):
    Calls Tryz.prog 98 #[.pointer (some ⟨b,0,none⟩)] w fun e w'=>e= .returned (txt l)∧Below B w w':=
  (Tryz.Builder_String_any_k B b l w h hB).mono fun _ _ ⟨h1,_,h2,_⟩=>⟨h1,h2⟩
theorem Bld.new (w:World):Bld (w.alloc (.cells #[.pointer none,.slice none 0 0] 144)) w.heap.size w.heap.size []:=Lib.IsBuilderF.of (Lib.fresh_isBuilder _ _ w)
theorem Bld.kept {D:Nat→Prop} {w w':World} {B b:Nat} {l:List UInt8} (h:Bld w B b l) (hk:Kept D w w') (hD:∀k,B≤k→¬D k):Bld w' B b l:=by
  have one:∀p,Lib.BuilderAtF 144 5 B b p (Lib.byteCells l) w→Lib.BuilderAtF 144 5 B b p (Lib.byteCells l) w':=by
    rintro p ⟨hB,v,hb,hown,hne⟩;refine⟨hB,v,hk.heap hb (hD b hB),⟨hown.1,?_⟩,hne⟩
    rcases hown.2 with hn|⟨g,cap,cur,fz,hv,hbg,hg,r⟩
    · exact .inl hn
    · exact .inr ⟨g,cap,cur,fz,hv,hbg,hk.heap hg (hD g hbg),r⟩
  exact h.elim (fun h=> .inl (one _ h)) fun h=> .inr (one _ h)
def Lt0 (r:Nat):Prop:=r=0∨GoodL r
theorem Lt0.high {r:Nat} (h:Lt0 r) (h0:128≤r):GoodL r:=h.resolve_left (by omega)
theorem set_any (s:ByteArray) (S:Nat→Bool) (hs:∀b∈s.data.toList,b.toNat<128) (hz:s.size≤100) (h1:∀r,r<128→decide (0≤Lib.indexByte s.data.toList r.toUInt8)=S r) (h2:∀r,128≤r→S r=false)
    (r:Nat) (hr:Lt0 r) (w:World):
    Calls Tryz.prog 121 #[.string s,.int .i32 (r:Int)] w fun e w'=>e= .returned (.bool (S r))∧Below w.heap.size w w':=by
  by_cases h:r<128
  · refine(Tryz.strings_ContainsRune_ascii s (r:Int) w (by omega) (by omega)).mono ?_
    rintro e w' ⟨rfl,rfl⟩;rw[show ((r:Int).toNat)=r from rfl,h1 r h];exact⟨rfl,Below.refl _ _⟩
  · have hi:Calls Tryz.prog 144 #[.string s,.int .i32 (r:Int)] w fun e w'=>e= .returned (.int .i64 (-1))∧Below w.heap.size w w':=by
      by_cases he:r=65533
      · subst he;exact index_none s w hs
      · exact index_high s r w (by omega) (hr.high (by omega)) he hs hz
    rw[h2 r (by omega)];have HI:=yH hi;clear hi h1 h2 hs hz hr h;go_enter Tryz.func121,Tryz.ntmps121
    go_wp2_with (go_at_call 144;refine HI.out.mono ?_;rintro e w1 ⟨rfl,hb⟩;have HB:=yH hb;clear hb)
    go_ret;exact⟨rfl,HB.out⟩
theorem acts_in (r:Nat) (hr:Lt0 r) (w:World):
    Calls Tryz.prog 121 #[.string ⟨#[34,36,92]⟩,.int .i32 (r:Int)] w fun e w'=>e= .returned (.bool (acts r))∧Below w.heap.size w w':=
  set_any _ acts (by decide) (by decide) (by decide+kernel) (fun r h=>by unfold acts;simp;omega) r hr w
def endL (r:Nat):Bool:=r==59||r==38||r==124||r==40||r==41||r==60||r==62
theorem ends_in (r:Nat) (hr:Lt0 r) (w:World):
    Calls Tryz.prog 121 #[.string ⟨#[59,38,124,40,41,60,62]⟩,.int .i32 (r:Int)] w fun e w'=>e= .returned (.bool (endL r))∧Below w.heap.size w w':=
  set_any _ endL (by decide) (by decide) (by decide+kernel) (fun r h=>by unfold endL;simp;omega) r hr w
theorem other_in (r:Nat) (hr:Lt0 r) (w:World):
    Calls Tryz.prog 121 #[.string ⟨#[49,50,51,52,53,54,55,56,57,64,35,63]⟩,.int .i32 (r:Int)] w fun e w'=>e= .returned (.bool (other r))∧Below w.heap.size w w':=
  set_any _ other (by decide) (by decide) (by decide+kernel) (fun r h=>by unfold other;simp;omega) r hr w
def reckL (r:Nat):Bool:=r==32||r==9||r==43||r==45||r==42||r==47||r==37||r==40||r==41||r==60||r==62||r==61||r==33
theorem reck_in (r:Nat) (hr:Lt0 r) (w:World):
    Calls Tryz.prog 121 #[.string ⟨#[32,9,43,45,42,47,37,40,41,60,62,61,33]⟩,.int .i32 (r:Int)] w fun e w'=>e= .returned (.bool (reckL r))∧Below w.heap.size w w':=
  set_any _ reckL (by decide) (by decide) (by decide+kernel) (fun r h=>by unfold reckL;simp;omega) r hr w
theorem acts_any (r:Nat) (hr:Lt0 r) (w:World):
    Calls Tryz.prog 152 #[.int .i32 (r:Int)] w fun e w'=>e= .returned (.bool (acts r))∧Below w.heap.size w w':=by
  have HI:=yH (acts_in r hr w);clear hr;go_enter Tryz.func152,Tryz.ntmps152
  go_wp2_with (go_at_call 121;refine HI.out.mono ?_;rintro e w1 ⟨rfl,hb⟩;have HB:=yH hb;clear hb)
  go_ret;exact⟨rfl,HB.out⟩
theorem other_any (r:Nat) (hr:Lt0 r) (w:World):
    Calls Tryz.prog 150 #[.int .i32 (r:Int)] w fun e w'=>e= .returned (.bool (other r))∧Below w.heap.size w w':=by
  have HI:=yH (other_in r hr w);clear hr;go_enter Tryz.func150,Tryz.ntmps150
  go_wp2_with (go_at_call 121;refine HI.out.mono ?_;rintro e w1 ⟨rfl,hb⟩;have HB:=yH hb;clear hb)
  go_ret;exact⟨rfl,HB.out⟩
theorem begins_any (r:Nat) (hr:Lt0 r) (w:World):
    Calls Tryz.prog 128 #[.int .i32 (r:Int)] w fun e w'=>e= .returned (.bool (begins r))∧Below w.heap.size w w':=by
  have HI:=yH (acts_any r hr w);clear hr
  by_cases h:r=39
  · subst h
    go_enter Tryz.func128,Tryz.ntmps128;go_wp2_with fail;go_ret;exact⟨rfl,Below.refl _ _⟩
  · have h1:((r:Int)==39)=false:=by
      have:¬(r:Int)=39:=by omega
      simpa using this
    have HR:=yH (show begins r=acts r by unfold begins;simp[h]);clear h;go_enter Tryz.func128,Tryz.ntmps128
    go_wp2_with (go_at_call 152;refine HI.out.mono ?_;rintro e w1 ⟨rfl,hb⟩;have HB:=yH hb;clear hb)
    go_ret;exact⟨by rw[HR.out];rfl,HB.out⟩
theorem reckons_any (r:Nat) (hr:Lt0 r) (w:World):
    Calls Tryz.prog 175 #[.int .i32 (r:Int)] w fun e w'=>e= .returned (.bool (reckons r))∧Below w.heap.size w w':=by
  have HI:=yH (reck_in r hr w);obtain⟨M,hM⟩:∃M,moreR (r:Int)=M:=⟨_,rfl⟩;have HM:=yH hM;have HR:=yH (show reckons r=(M||reckL r) by rw[←hM];rfl);clear hr hM
  cases M
  all_goals
    go_enter Tryz.func175,Tryz.ntmps175
    go_wp2_with (first|(go_at_call 177;refine(more_any _ _).mono ?_;rintro e w1 ⟨rfl,rfl⟩;rw[HM.out])|(go_at_call 121;refine HI.out.mono ?_;rintro e w1 ⟨rfl,hb⟩;have HB:=yH hb;clear hb))
    go_ret
  · exact⟨by rw[HR.out];rfl,HB.out⟩
  · exact⟨by rw[HR.out];rfl,Below.refl _ _⟩
theorem ends_any (r:Nat) (n:Nat) (hr:Lt0 r) (w:World):
    Calls Tryz.prog 100 #[.int .i32 (r:Int),.int .i64 (n:Int)] w fun e w'=>e= .returned (.bool (ends r (decide (0<n))))∧Below w.heap.size w w':=by
  by_cases h:0<n
  · have h1:(0:Int)<(n:Int):=by omega
    have HR:=yH (show ends r (decide (0<n))=(r==125) by rw[decide_eq_true h];rfl)
    by_cases h2:r=125
    · subst h2
      clear h hr;go_enter Tryz.func100,Tryz.ntmps100;go_wp2_with fail;go_ret;exact⟨by rw[HR.out];rfl,Below.refl _ _⟩
    · have h3:((r:Int)==125)=false:=by
        have:¬(r:Int)=125:=by omega
        simpa using this
      have HR2:=yH (show(r==125)=false by simpa using h2);clear h hr h2;go_enter Tryz.func100,Tryz.ntmps100;go_wp2_with fail;go_ret;exact⟨by rw[HR.out,HR2.out];rfl,Below.refl _ _⟩
  · obtain rfl:n=0:=by omega
    have HI:=yH (ends_in r hr w);obtain⟨M,hM⟩:∃M,blankR (r:Int)=M:=⟨_,rfl⟩;have HM:=yH hM;have HR:=yH (show ends r (decide (0<0))=(M||endL r) by rw[←hM];rfl);clear hr hM h
    cases M
    all_goals
      go_enter Tryz.func100,Tryz.ntmps100
      go_wp2_with (first|(go_at_call 120;refine(blank_any _ _).mono ?_;rintro e w1 ⟨rfl,rfl⟩;rw[HM.out])|(go_at_call 121;refine HI.out.mono ?_;rintro e w1 ⟨rfl,hb⟩;have HB:=yH hb;clear hb))
      go_ret
    · exact⟨by rw[HR.out];rfl,HB.out⟩
    · exact⟨by rw[HR.out];rfl,Below.refl _ _⟩
def lenAt (w:World) (X:Nat):Nat:=match w.cell? ⟨X,0,none⟩with
  |some (.slice _ n _)=>n
  |_=>0
theorem Rd.lenAt {w:World} {X G sz:Nat} {xs:List Nat} (h:Rd w X G sz xs):lenAt w X=xs.length+1:=by
  obtain⟨o,c,h⟩:=h;unfold Go.Proofs.YtakceggnadagmaaGreatDoor.lenAt;rw[h.cell0]
structure Stops (f:FuncId) (caps:Array Value) (S:Nat→Bool) (I:World→Prop):Prop where
  enter:∀args w,(callFunc f args).run Tryz.prog w= .ok (.enter f args) w
  call:∀(r:Nat) (W:World),Lt0 r→I W→Calls Tryz.prog f (#[.int .i32 (r:Int)]++caps) W fun e w'=>e= .returned (.bool (S r))∧Below W.heap.size W w'
theorem got_stop (S:Nat→Bool) (c:Nat) (r:List Nat) (h:S c=true):got S (c::r)= []∧left S (c::r)=c::r:=by
  rw[show got S (c::r)=if S c then []else c::got S r from rfl,show left S (c::r)=if S c then c::r else left S r from rfl,if_pos h,if_pos h];exact⟨rfl,rfl⟩
theorem got_go (S:Nat→Bool) (c:Nat) (r:List Nat) (h:S c=false):got S (c::r)=c::got S r∧left S (c::r)=left S r:=by
  rw[show got S (c::r)=if S c then []else c::got S r from rfl,show left S (c::r)=if S c then c::r else left S r from rfl,if_neg (by rw[h];decide),if_neg (by rw[h];decide)];exact⟨rfl,rfl⟩
set_option maxHeartbeats 1000000 in
set_option maxRecDepth 100000 in
theorem till_any {f:FuncId} {caps:Array Value} {S:Nat→Bool} {I:World→Prop} (hS:Stops f caps S I) {w:World} {X G sz:Nat} {xs:List Nat} (h:Rd w X G sz xs)
    (hI:∀W,Kept (fun k=>k=X) w W→I W):
    Calls Tryz.prog 70 #[.pointer (some ⟨X,0,none⟩),.func (.func f) #[] caps] w fun e w'=>e= .returned (txt (enc (got S xs)))∧RStep w w' X G sz (left S xs):=by
  have HS:=yH hS;have HI:=yH hI;have HW:=yH h;have ef:=hS.enter;clear hS hI h;go_enter Tryz.func70,Tryz.ntmps70;go_wp2_with fail
  go_loopw [] (fun wr=> ∃done ys,Rd wr X G sz ys∧Bld wr w.heap.size w.heap.size (enc done)∧Kept (fun k=>k=X) w wr∧w.heap.size<wr.heap.size∧got S xs=done++got S ys∧left S xs=left S ys∧done.length+ys.length=xs.length) (fun wr=>lenAt wr X)
  case atStart=>
    refine⟨[],xs,HW.out.below ?_,Bld.new w,Kept.of_below ?_,by simp,rfl,rfl,by simp⟩
    · exact(Below.refl _ w).alloc (Nat.le_refl _) _
    · exact(Below.refl _ w).alloc (Nat.le_refl _) _
  case round=>
    obtain⟨done,ys,hr,hb,hk,hz,hg,hl,hn⟩:=hrel;have HR:=yH hr;have HN:=yH (next_any hr);have HT:=yH (take_any hr);have HB:=yH hb;have HK:=yH hk;have HZ:=yH hz;have HG:=yH (And.intro hg (And.intro hl hn));clear hr hb hk hz hg hl hn
    cases ys with
    |nil=>
      have HE:=yH (string_any w.heap.size w.heap.size (enc done) wr HB.out (by have:=HZ.out;omega))
      go_wp2_with (first|(go_at_call 72;refine HN.out.mono ?_;rintro e w1 ⟨rfl,rfl⟩;simp only[next])|(go_at_call 98;refine HE.out.mono ?_;rintro e w2 ⟨rfl,hb2⟩;have HB2:=yH hb2;clear hb2))
      go_ret;obtain⟨g1,g2,g3⟩:=HG.out;have hk2:Kept (fun k=>w.heap.size≤k) wr w2:=⟨HB2.out.os,HB2.out.tape,HB2.out.output,HB2.out.size,fun k _ hd=>HB2.out.block k (by omega)⟩;have hlt:=HW.out.lt;refine⟨by rw[g1];simp[got],?_,?_⟩
      · rw[g2]
        exact HR.out.kept hk2 (by omega) (by omega)
      · exact HK.out.trans hk2 fun i hi=> .inr hi
    |cons c r=>
      have hc:=HR.out.good c (by simp)
      have hx:((c:Int) !=0)=true:=by
        have:=hc.1;have:¬(c:Int)=0:=(by omega)
        simpa using this
      have hcall:=HS.out.call c wr (.inr hc) (HI.out wr HK.out);obtain⟨b,hb⟩:∃b,S c=b:=⟨_,rfl⟩;rw[hb]at hcall;have HC:=yH hcall;have HGC:=yH hc;have HSC:=yH hb;clear hc hcall hb
      cases b with
      |true=>
        go_wp2_with (first|(go_at_call 72;refine HN.out.mono ?_;rintro e w1 ⟨rfl,rfl⟩;simp only[next])|(go_at_fn f;refine HC.out.mono ?_;rintro e w1 ⟨rfl,hb1⟩;have HB1:=yH hb1;clear hb1;have HE:=yH (string_any w.heap.size w.heap.size (enc done) w1 (HB.out.kept (D:=fun _=>False) (Kept.of_below HB1.out) (fun _ _ h=>h)) (by have:=HZ.out;have:=HB1.out.size;omega)))|(go_at_call 98;refine HE.out.mono ?_;rintro e w2 ⟨rfl,hb2⟩;have HB2:=yH hb2;clear hb2))
        go_ret;obtain⟨g1,g2,g3⟩:=HG.out;obtain⟨s1,s2⟩:=got_stop S c r HSC.out;have hk1:Kept (fun k=>k=X) wr w1:=Kept.of_below HB1.out;have hk2:Kept (fun k=>w.heap.size≤k) w1 w2:=⟨HB2.out.os,HB2.out.tape,HB2.out.output,HB2.out.size,fun k _ hd=>HB2.out.block k (by omega)⟩;have hlt:=HW.out.lt;refine⟨by rw[g1,s1];simp,?_,?_⟩
        · rw[g2,s2]
          exact(HR.out.below HB1.out).kept hk2 (by omega) (by omega)
        · exact(HK.out.on hk1).trans hk2 fun i hi=> .inr hi
      |false=>
        go_wp2_with (first
          |(go_at_call 72;refine HN.out.mono ?_;rintro e w1 ⟨rfl,rfl⟩;simp only[next])
          |(go_at_fn f;refine HC.out.mono ?_;rintro e w1 ⟨rfl,hb1⟩;have HB1:=yH hb1;clear hb1;have HT1:=yH (take_any (HR.out.below HB1.out)))
          |(go_at_call 97;refine HT1.out.mono ?_;rintro e w2 ⟨rfl,hs2⟩;have HS2:=yH hs2;clear hs2;simp only[next];have HE:=yH (writeRune_any w.heap.size w.heap.size (enc done) c HGC.out w2 ((HB.out.kept (D:=fun _=>False) (Kept.of_below HB1.out) (fun _ _ h=>h)).kept HS2.out.2 (fun k hk e=>by have:=HW.out.lt;omega)) (by have h1:=(enc_length done).2;have h2:=HG.out.2.2;have h3:=HW.out.few;omega) (by have h1:=HS2.out.2.size;have h2:=HB1.out.size;have h3:=HZ.out;omega)))
          |(go_at_call 96;refine HE.out.mono ?_;rintro e w3 ⟨⟨n3,rfl⟩,hd3,hb3⟩;have HD3:=yH (And.intro hd3 hb3);clear hd3 hb3))
        go_roundw
        case rel=>
          obtain⟨g1,g2,g3⟩:=HG.out;obtain⟨s1,s2⟩:=got_go S c r HSC.out;have hlt:=HW.out.lt;have hk1:Kept (fun k=>k=X) wr w1:=Kept.of_below HB1.out;have hk3:Kept (fun k=>w.heap.size≤k) w2 w3:=⟨HD3.out.2.os,HD3.out.2.tape,HD3.out.2.output,HD3.out.2.size,fun k _ hd=>HD3.out.2.block k (by omega)⟩;refine⟨done++ [c],r,HS2.out.1.kept hk3 (by omega) (by omega),?_,((HK.out.on hk1).on HS2.out.2).trans hk3 fun i hi=> .inr hi,?_,?_,?_,?_⟩
          · rw[enc_append];simp only[enc,List.append_nil];exact HD3.out.1
          · have h1:=HS2.out.2.size;have h2:=HB1.out.size;have h3:=HZ.out;have h4:=HD3.out.2.size;omega
          · rw[g1,s1];simp
          · rw[g2,s2]
          · rw[List.length_append];simp at g3 ⊢;omega
        case measure=>
          have hlt:=HW.out.lt;have hk3:Kept (fun k=>w.heap.size≤k) w2 w3:=⟨HD3.out.2.os,HD3.out.2.tape,HD3.out.2.output,HD3.out.2.size,fun k _ hd=>HD3.out.2.block k (by omega)⟩;have e1:=(HS2.out.1.kept hk3 (by omega) (by omega)).lenAt;have e2:=HR.out.lenAt;simp only[e1,e2,List.tail_cons,List.length_cons];omega
theorem RowO.shape {w:World} {B W:Nat} {v:Value} {vs:List Value} {F:Nat→Prop} {ps:List Pt} (h:RowO w B W v vs F ps):∃a c,v= .slice a ps.length c:=by
  rcases h.own.2 with ⟨hv,h0⟩|⟨g,cap,cur,hv,_⟩
  · exact⟨none,0,by rw[hv,h0]⟩
  · exact⟨_,_,hv⟩
structure Grown (w0 w1:World) (B W:Nat) (v:Value) (vs:List Value) (ps:List Pt) (g cap:Nat):Prop where
  own:w1.ownsRow B 113 5 (.slice (some ⟨g,0,none⟩) (ps.length+1) cap) (ps.length+1) (rowCells ps vs++zeroPart.toList)
  grown:(w0.alloc (.cells zeroPart 113)).drew.grownBy w1 v.ownBlock
  at_:v.ownBlock=some g∨g=w0.heap.size+1
  lt:g<w1.heap.size
theorem Grown.facts {w0 w1:World} {B W g cap:Nat} {v:Value} {vs:List Value} {F:Nat→Prop} {ps:List Pt} (h:RowO w0 B W v vs F ps) (k:Grown w0 w1 B W v vs ps g cap):
    w1.cell? ⟨W,0,none⟩=some v∧w1.frozen? ⟨W,0,none⟩=false∧g≠W∧(∀i,i<5→w1.cell? ⟨g,ps.length*5+i,none⟩=zeroPart[i]?)∧∀j,w1.frozen? ⟨g,j,none⟩=false:=by
  have hW:=h.lt;have hk:w1.heap[W]? =w0.heap[W]? :=(k.grown.block W (by show W<(w0.alloc _).heap.size;simp;omega) (fun e=>h.ne e.symm)).trans (Below.heap_alloc _ _ _ hW);have hh:=hk.trans h.head;refine⟨by rw[cell_plain hh];rfl,frozen_plain hh 0,?_,fun i hi=> ?_,k.own.frozenAt⟩
  · rcases k.at_ with e|e
    · exact fun e'=>h.ne (by rw[e,e'])
    · omega
  · rw[k.own.cellAt _ (by omega),List.getElem?_append_right (by rw[rowCells_length _ _ h.len];omega),rowCells_length _ _ h.len,Nat.add_sub_cancel_left]
    simp
def put5 (w:World) (g o:Nat) (a0 a1 a2 a3 a4:Value):World:=
  ((((w.setCell ⟨g,o,none⟩ a0).setCell ⟨g,o+1,none⟩ a1).setCell ⟨g,o+2,none⟩ a2).setCell ⟨g,o+3,none⟩ a3).setCell ⟨g,o+4,none⟩ a4
theorem put5_other (w:World) (g o:Nat) (a0 a1 a2 a3 a4:Value) (k:Nat) (hk:k≠g):(put5 w g o a0 a1 a2 a3 a4).heap[k]? =w.heap[k]? :=by
  unfold put5;rw[Below.heap_setCell _ _ _ _ hk,Below.heap_setCell _ _ _ _ hk,Below.heap_setCell _ _ _ _ hk,Below.heap_setCell _ _ _ _ hk,Below.heap_setCell _ _ _ _ hk]
theorem put5_size (w:World) (g o:Nat) (a0 a1 a2 a3 a4:Value):(put5 w g o a0 a1 a2 a3 a4).heap.size=w.heap.size:=by simp[put5,World.setCell]
theorem set_same (w:World) (a:Addr) (v:Value):(w.setCell a v).os=w.os∧(w.setCell a v).tape=w.tape∧(w.setCell a v).output=w.output∧(w.setCell a v).heap.size=w.heap.size:=⟨rfl,rfl,rfl,by simp[World.setCell]⟩
theorem put5_same (w:World) (g o:Nat) (a0 a1 a2 a3 a4:Value):(put5 w g o a0 a1 a2 a3 a4).os=w.os∧(put5 w g o a0 a1 a2 a3 a4).tape=w.tape∧(put5 w g o a0 a1 a2 a3 a4).output=w.output:=by
  unfold put5;refine⟨?_,?_,?_⟩
  · rw[(set_same _ _ _).1,(set_same _ _ _).1,(set_same _ _ _).1,(set_same _ _ _).1,(set_same _ _ _).1]
  · rw[(set_same _ _ _).2.1,(set_same _ _ _).2.1,(set_same _ _ _).2.1,(set_same _ _ _).2.1,(set_same _ _ _).2.1]
  · rw[(set_same _ _ _).2.2.1,(set_same _ _ _).2.2.1,(set_same _ _ _).2.2.1,(set_same _ _ _).2.2.1,(set_same _ _ _).2.2.1]
theorem set5 (L:List Value) (z0 z1 z2 z3 z4 a0 a1 a2 a3 a4:Value):
    (((((L++ [z0,z1,z2,z3,z4]).set L.length a0).set (L.length+1) a1).set (L.length+2) a2).set (L.length+3) a3).set (L.length+4) a4=L++ [a0,a1,a2,a3,a4]:=by
  simp[List.set_append_right]
theorem put5_own {w:World} {B e g n cap:Nat} {L:List Value} {z0 z1 z2 z3 z4:Value} (h:w.ownsRow B e 5 (.slice (some ⟨g,0,none⟩) n cap) n (L++ [z0,z1,z2,z3,z4])) (o:Nat) (ho:L.length=o) (a0 a1 a2 a3 a4:Value):
    (put5 w g o a0 a1 a2 a3 a4).ownsRow B e 5 (.slice (some ⟨g,0,none⟩) n cap) n (L++ [a0,a1,a2,a3,a4]):=by
  have h5:=((((h.stored o a0).1.stored (o+1) a1).1.stored (o+2) a2).1.stored (o+3) a3).1.stored (o+4) a4;have:=h5.1;rw[←ho]at this ⊢;rw[set5]at this;exact this
theorem Grown.put {w0 w1:World} {B W g cap:Nat} {v:Value} {vs:List Value} {F:Nat→Prop} {ps:List Pt} (h:RowO w0 B W v vs F ps) (k:Grown w0 w1 B W v vs ps g cap) (p:Pt) (u:Value)
    (hu:∃F',WordV w0 F' u p.word∧∀g,F' g→B≤g∧g<w0.heap.size∧g≠W∧v.ownBlock≠some g) (o:Nat) (ho:ps.length*5=o) (w2:World)
    (hw:w2=put5 (w1.setCell ⟨W,0,none⟩ (.slice (some ⟨g,0,none⟩) (ps.length+1) cap)) g o (.int .i64 p.kind) (txt p.text) (txt p.op) u (.bool p.q)∨
      w2=(put5 w1 g o (.int .i64 p.kind) (txt p.text) (txt p.op) u (.bool p.q)).setCell ⟨W,0,none⟩ (.slice (some ⟨g,0,none⟩) (ps.length+1) cap)):
    RowAt w2 B W (ps++ [p])∧Kept (fun k=>B≤k) w0 w2:=by
  obtain⟨x0,x1,x2,x3,x4⟩:=k.facts h;have hW:=h.lt;have hsz:(w0.alloc (.cells zeroPart 113)).drew.heap.size=w0.heap.size+1:=(by show(w0.alloc _).heap.size=_;simp);have hs1:=k.grown.size;rw[hsz]at hs1;have hold:∀j,j<w0.heap.size→v.ownBlock≠some j→w1.heap[j]? =w0.heap[j]? :=fun j hj hn=>(k.grown.block j (by rw[hsz];omega) (fun e=>hn e.symm)).trans (Below.heap_alloc _ _ _ hj);have hh1:w1.heap[W]? =some (.cells #[v] 151 (0,0)):=(hold W hW h.ne).trans h.head;have hgB:B≤g:=(World.ownsRow.lt k.own g rfl).1;have hL:(rowCells ps vs).length=o:=(by rw[rowCells_length _ _ h.len,ho]);have hne:∀(a:Addr),a.block=W→(Value.slice (some ⟨g,0,none⟩) (ps.length+1) cap).ownBlock≠some a.block:=fun a e e'=>x2 (by rw[e]at e';simpa [Value.ownBlock]using e')
  have key:w2.ownsRow B 113 5 (.slice (some ⟨g,0,none⟩) (ps.length+1) cap) (ps.length+1) (rowCells ps vs++pcells p u)∧w2.heap[W]? =some (.cells #[.slice (some ⟨g,0,none⟩) (ps.length+1) cap] 151 (0,0))∧
      (∀j,j≠g→j≠W→w2.heap[j]? =w1.heap[j]?)∧w2.heap.size=w1.heap.size∧w2.os=w1.os∧w2.tape=w1.tape∧w2.output=w1.output:=by
    obtain⟨b0,hb0⟩:∃b0,(Value.int .i64 p.kind)=b0:=⟨_,rfl⟩;obtain⟨b1,hb1⟩:∃b1,txt p.text=b1:=⟨_,rfl⟩;obtain⟨b2,hb2⟩:∃b2,txt p.op=b2:=⟨_,rfl⟩;obtain⟨b4,hb4⟩:∃b4,(Value.bool p.q)=b4:=⟨_,rfl⟩;obtain⟨V,hV⟩:∃V,Value.slice (some ⟨g,0,none⟩) (ps.length+1) cap=V:=⟨_,rfl⟩;have ko:w1.ownsRow B 113 5 (.slice (some ⟨g,0,none⟩) (ps.length+1) cap) (ps.length+1) (rowCells ps vs++ [.int .i64 0,.string ⟨#[]⟩,.string ⟨#[]⟩,.slice none 0 0,.bool false]):=k.own;have e5:pcells p u= [b0,b1,b2,u,b4]:=(by rw[←hb0,←hb1,←hb2,←hb4];rfl);rw[hb0,hb1,hb2,hb4]at hw;rw[e5];rw[hV]at hw hne ⊢;have hne':=hne ⟨W,0,none⟩ rfl
    rcases hw with hw|hw
    · obtain⟨X,hX⟩:∃X,w1.setCell ⟨W,0,none⟩ V=X:=⟨_,rfl⟩
      have kX:X.ownsRow B 113 5 (.slice (some ⟨g,0,none⟩) (ps.length+1) cap) (ps.length+1) (rowCells ps vs++ [.int .i64 0,.string ⟨#[]⟩,.string ⟨#[]⟩,.slice none 0 0,.bool false]):=(by rw[←hX];exact ownsRow_setCell_other ko (by rw[hV];exact hne') _);obtain⟨s1,s2,s3⟩:=put5_same X g o b0 b1 b2 u b4;obtain⟨r1,r2,r3,r4⟩:=set_same w1 ⟨W,0,none⟩ V;rw[hX]at r1 r2 r3 r4 hw;rw[hw];refine⟨by rw[←hV];exact put5_own kX o hL b0 b1 b2 u b4,?_,fun j h1 h2=> ?_,?_,s1.trans r1,s2.trans r2,s3.trans r3⟩
      · rw[put5_other _ _ _ _ _ _ _ _ _ (Ne.symm x2),←hX];exact heap_set_one hh1 _
      · rw[put5_other _ _ _ _ _ _ _ _ _ h1,←hX,Below.heap_setCell _ _ _ _ h2]
      · rw[put5_size,r4]
    · obtain⟨X,hX⟩:∃X,put5 w1 g o b0 b1 b2 u b4=X:=⟨_,rfl⟩
      have kX:X.ownsRow B 113 5 (.slice (some ⟨g,0,none⟩) (ps.length+1) cap) (ps.length+1) (rowCells ps vs++ [b0,b1,b2,u,b4]):=(by rw[←hX];exact put5_own ko o hL b0 b1 b2 u b4);obtain⟨s1,s2,s3⟩:=put5_same w1 g o b0 b1 b2 u b4;have s4:=put5_size w1 g o b0 b1 b2 u b4;have s5:=fun j h=>put5_other w1 g o b0 b1 b2 u b4 j h;rw[hX]at s1 s2 s3 s4 s5 hw;obtain⟨r1,r2,r3,r4⟩:=set_same X ⟨W,0,none⟩ V;rw[hw];refine⟨by rw[←hV];exact ownsRow_setCell_other kX (by rw[hV];exact hne') _,heap_set_one ((s5 W (Ne.symm x2)).trans hh1) _,fun j h1 h2=> ?_,r4.trans s4,r1.trans s1,r2.trans s2,r3.trans s3⟩;rw[Below.heap_setCell _ _ _ _ h2,s5 j h1]
  obtain⟨y0,y1,y2,y3,y4,y5,y6⟩:=key;have hgl:(Value.slice (some ⟨g,0,none⟩) (ps.length+1) cap).ownBlock=some g:=rfl
  have hsame:∀j,j<w0.heap.size→j≠W→v.ownBlock≠some j→w2.heap[j]? =w0.heap[j]? :=fun j hj hjW hjv=>by
    have hjg:j≠g:=by
      rcases k.at_ with e|e
      · exact fun e'=>hjv (by rw[e,e'])
      · omega
    rw[y2 j hjg hjW,hold j hj hjv]
  obtain⟨F',hu1,hu2⟩:=hu;refine⟨⟨_,vs++ [u],fun j=>F j∨F' j,{ head:=y1,base:=h.base,own:= ?_,len:=by simp[h.len],sub:=fun j q x hq hx=> ?_,far:=fun j hj=> ?_,ne:=fun e=>x2 (by simpa [Value.ownBlock]using e) }⟩,?_⟩
  · rw[rowCells_append _ _ _ _ h.len]
    simpa [rowCells]using y0
  · rcases Nat.lt_or_ge j ps.length with hj|hj
    · rw[List.getElem?_append_left hj]at hq
      rw[List.getElem?_append_left (by rw[←h.len];exact hj)]at hx;exact((h.sub j q x hq hx).same fun i hi=>hsame i (h.far i hi).2.1 (h.far i hi).2.2.1 (h.far i hi).2.2.2).mono fun i hi=> .inl hi
    · rw[List.getElem?_append_right hj]at hq
      rw[List.getElem?_append_right (by rw[←h.len];exact hj)]at hx;obtain⟨hj0,hq0⟩:=List.getElem?_eq_some_iff.1 hq;obtain⟨_,hx0⟩:=List.getElem?_eq_some_iff.1 hx;simp only[List.length_singleton]at hj0;simp only[List.getElem_singleton]at hq0 hx0;subst hq0 hx0;exact(hu1.same fun i hi=>hsame i (hu2 i hi).2.1 (hu2 i hi).2.2.1 (hu2 i hi).2.2.2).mono fun i hi=> .inr hi
  · have hlt:∀i,(B≤i∧i<w0.heap.size∧i≠W∧v.ownBlock≠some i)→B≤i∧i<w2.heap.size∧i≠W∧(Value.slice (some ⟨g,0,none⟩) (ps.length+1) cap).ownBlock≠some i:=fun i ⟨a1,a2,a3,a4⟩=>
      ⟨a1,by omega,a3,fun e=>by
        have e':g=i:=by simpa [Value.ownBlock]using e
        rcases k.at_ with e2|e2
        · exact a4 (by rw[e2,e'])
        · omega⟩
    exact hj.elim (fun hj=>hlt j (h.far j hj)) fun hj=>hlt j (hu2 j hj)
  · refine⟨y4.trans k.grown.os,y5.trans k.grown.tape,y6.trans k.grown.output,by omega,fun j hj hn=>hsame j hj (fun e=>hn (by rw[e];exact h.base)) fun e=>hn ((World.ownsRow.lt h.own j e).1)⟩
theorem Grown.putA {w0 w1:World} {B W g cap:Nat} {v:Value} {vs:List Value} {F:Nat→Prop} {ps qs:List Pt} (h:RowO w0 B W v vs F ps) (k:Grown w0 w1 B W v vs ps g cap) (p:Pt) (u:Value)
    (hu:∃F',WordV w0 F' u p.word∧∀g,F' g→B≤g∧g<w0.heap.size∧g≠W∧v.ownBlock≠some g) {N o0 o1 o2 o3 o4:Nat} {a0 a1 a2 a3 a4:Value} (hN:N=ps.length+1)
    (h0:o0=ps.length*5) (h1:o1=ps.length*5+1) (h2:o2=ps.length*5+2) (h3:o3=ps.length*5+3) (h4:o4=ps.length*5+4) (ha: [a0,a1,a2,a3,a4]=pcells p u) (hq:qs=ps++ [p]):
    RowAt ((((((w1.setCell ⟨W,0,none⟩ (.slice (some ⟨g,0,none⟩) N cap)).setCell ⟨g,o0,none⟩ a0).setCell ⟨g,o1,none⟩ a1).setCell ⟨g,o2,none⟩ a2).setCell ⟨g,o3,none⟩ a3).setCell ⟨g,o4,none⟩ a4) B W qs∧
      Kept (fun k=>B≤k) w0 ((((((w1.setCell ⟨W,0,none⟩ (.slice (some ⟨g,0,none⟩) N cap)).setCell ⟨g,o0,none⟩ a0).setCell ⟨g,o1,none⟩ a1).setCell ⟨g,o2,none⟩ a2).setCell ⟨g,o3,none⟩ a3).setCell ⟨g,o4,none⟩ a4):=by
  subst hN h0 h1 h2 h3 h4 hq;simp only[pcells,List.cons.injEq,and_true]at ha;obtain⟨rfl,rfl,rfl,rfl,rfl⟩:=ha;have:=Grown.put h k p a3 hu (ps.length*5) rfl _ (.inl rfl);unfold put5 at this;exact this
theorem Grown.putB {w0 w1:World} {B W g cap:Nat} {v:Value} {vs:List Value} {F:Nat→Prop} {ps qs:List Pt} (h:RowO w0 B W v vs F ps) (k:Grown w0 w1 B W v vs ps g cap) (p:Pt) (u:Value)
    (hu:∃F',WordV w0 F' u p.word∧∀g,F' g→B≤g∧g<w0.heap.size∧g≠W∧v.ownBlock≠some g) {N o0 o1 o2 o3 o4:Nat} {a0 a1 a2 a3 a4:Value} (hN:N=ps.length+1)
    (h0:o0=ps.length*5) (h1:o1=ps.length*5+1) (h2:o2=ps.length*5+2) (h3:o3=ps.length*5+3) (h4:o4=ps.length*5+4) (ha: [a0,a1,a2,a3,a4]=pcells p u) (hq:qs=ps++ [p]):
    RowAt ((((((w1.setCell ⟨g,o0,none⟩ a0).setCell ⟨g,o1,none⟩ a1).setCell ⟨g,o2,none⟩ a2).setCell ⟨g,o3,none⟩ a3).setCell ⟨g,o4,none⟩ a4).setCell ⟨W,0,none⟩ (.slice (some ⟨g,0,none⟩) N cap)) B W qs∧
      Kept (fun k=>B≤k) w0 ((((((w1.setCell ⟨g,o0,none⟩ a0).setCell ⟨g,o1,none⟩ a1).setCell ⟨g,o2,none⟩ a2).setCell ⟨g,o3,none⟩ a3).setCell ⟨g,o4,none⟩ a4).setCell ⟨W,0,none⟩ (.slice (some ⟨g,0,none⟩) N cap)):=by
  subst hN h0 h1 h2 h3 h4 hq;simp only[pcells,List.cons.injEq,and_true]at ha;obtain⟨rfl,rfl,rfl,rfl,rfl⟩:=ha;have:=Grown.put h k p a3 hu (ps.length*5) rfl _ (.inr rfl);unfold put5 at this;exact this
theorem RowO.form {w:World} {B W:Nat} {v:Value} {vs:List Value} {F:Nat→Prop} {ps:List Pt} {p:Pt} (h:RowO w B W v vs F (ps++ [p])):
    ∃A cap vs0 u,v= .slice (some ⟨A,0,none⟩) (ps.length+1) cap∧vs=vs0++ [u]∧ps.length=vs0.length∧B≤A∧A<w.heap.size∧A≠W∧
      (∀i,i<5→w.cell? ⟨A,ps.length*5+i,none⟩=(pcells p u)[i]?)∧(∀j,w.frozen? ⟨A,j,none⟩=false):=by
  have hl:=h.len;rw[List.length_append,List.length_singleton]at hl
  rcases List.eq_nil_or_concat vs with rfl|⟨vs0,u,rfl⟩
  · simp at hl
  rw[List.concat_eq_append]at h hl ⊢;rw[List.length_append,List.length_singleton]at hl;have ho:=h.own;rw[List.length_append,List.length_singleton]at ho;obtain⟨A,cap,rfl,hB,hA⟩:=World.ownsRow.form ho (by omega);refine⟨A,cap,vs0,u,rfl,rfl,by omega,hB,hA,fun e=>h.ne (by rw[e];rfl),fun i hi=> ?_,?_⟩
  · rw[ho.cellAt _ (by omega),rowCells_get (ps++ [p]) (vs0++ [u]) ps.length p u (by simp) (by rw[show ps.length=vs0.length by omega];simp) (by simp;omega) i hi]
  · intro j
    rcases ho.2 with ⟨hv,_⟩|⟨g,cap',cur,hv,_,hg,_⟩
    · cases hv
    · cases hv
      exact frozen_plain hg j
theorem RowO.join {w:World} {B W A cap:Nat} {vs:List Value} {u:Value} {F:Nat→Prop} {ps:List Pt} {p:Pt} (h:RowO w B W (.slice (some ⟨A,0,none⟩) (ps.length+1) cap) (vs++ [u]) F (ps++ [p])) (t:List UInt8):
    RowO (w.setCell ⟨A,ps.length*5+1,none⟩ (txt t)) B W (.slice (some ⟨A,0,none⟩) (ps.length+1) cap) (vs++ [u]) F (ps++ [{ p with text:=t }]):=by
  have hl:=h.len;simp only[List.length_append,List.length_singleton]at hl;have ho:=h.own;rw[List.length_append,List.length_singleton]at ho;have hne:A≠W:=fun e=>h.ne (by rw[e];rfl);have hk:∀g,g≠A→(w.setCell ⟨A,ps.length*5+1,none⟩ (txt t)).heap[g]? =w.heap[g]? :=fun g hg=>Below.heap_setCell _ _ _ _ hg;have hsz:(w.setCell ⟨A,ps.length*5+1,none⟩ (txt t)).heap.size=w.heap.size:=(by simp[World.setCell]);have hs:=(ho.stored (ps.length*5+1) (txt t)).1;rw[rowCells_set ps vs p u t (by omega)]at hs;refine { head:=(hk W (Ne.symm hne)).trans h.head,base:=h.base,own:= ?_,len:=by simpa using h.len,sub:=fun j q x hq hx=> ?_,far:=fun g hg=> ?_,ne:=h.ne }
  · simpa using hs
  · have hsub:∀q',(ps++ [p])[j]? =some q'→q'.word=q.word→WordV (w.setCell ⟨A,ps.length*5+1,none⟩ (txt t)) F x q.word:=fun q' hq' e=>by
      rw[←e];exact(h.sub j q' x hq' hx).same fun g hg=>hk g fun e=>(h.far g hg).2.2.2 (by rw[e];rfl)
    rcases Nat.lt_or_ge j ps.length with hj|hj
    · rw[List.getElem?_append_left hj]at hq
      exact hsub q (by rw[List.getElem?_append_left hj];exact hq) rfl
    · rw[List.getElem?_append_right hj]at hq
      obtain⟨hj0,hq0⟩:=List.getElem?_eq_some_iff.1 hq;simp only[List.length_singleton]at hj0;obtain rfl:j=ps.length:=(by omega);refine hsub p (by simp) ?_;rw[←hq0];simp
  · rw[hsz];exact h.far g hg
set_option maxHeartbeats 1000000 in
theorem lit_join {w:World} {B W:Nat} {ps:List Pt} {p:Pt} (h:RowAt w B W (ps++ [p])) (t:List UInt8) (hk:p.kind=1) (hs:p.text.length+t.length≤100000) (hn:ps.length≤10000):
    Calls Tryz.prog 126 #[.pointer (some ⟨W,0,none⟩),txt t,.bool p.q] w fun e w'=>e= .returned (.tuple #[])∧RowAt w' B W (ps++ [{ p with text:=p.text++t }])∧Kept (fun k=>B≤k) w w':=by
  obtain⟨pk,T,O,D,q⟩:=p;simp only at hk hs ⊢;subst hk;obtain⟨v,vs,F,h⟩:=h;obtain⟨A,cap,vs0,u,rfl,rfl,hl,hB,hA,hAW,hc,hf⟩:=h.form;have c0:=h.cell0;have k0:=hc 0 (by omega);have k1:=hc 1 (by omega);have k4:=hc 4 (by omega);simp only[pcells,List.getElem?_cons_zero,List.getElem?_cons_succ,Nat.add_zero]at k0 k1 k4;have f1:=hf (ps.length*5+1);have HJ:=yH (h.join (T++t));obtain⟨n,hn'⟩:∃n,ps.length=n:=⟨_,rfl⟩;rw[hn']at c0 k0 k1 k4 f1;have HN:=yH hn';obtain⟨a,ha⟩:∃a:ByteArray,a=⟨T.toArray⟩:=⟨_,rfl⟩;obtain⟨b,hb⟩:∃b:ByteArray,b=⟨t.toArray⟩:=⟨_,rfl⟩;have hsz:¬(9223372036854775807:Int)<(a.size:Int)+(b.size:Int):=(by rw[ha,hb,bytes_size,bytes_size];omega);have HAB:=yH (show(.string (a++b):Value)=txt (T++t) by rw[ha,hb,bytes_append];rfl);rw[show txt T= .string a by rw[ha];rfl]at k1;rw[show txt t= .string b by rw[hb];rfl];have HBA:=yH hB;have hn1:(n:Int)≤10000:=(by omega);have hn0:(0:Int)≤n:=(by omega);clear h hc hf hl hB hA hs hn hn' ha hb;go_enter Tryz.func126,Tryz.ntmps126;go_wp2_with fail;refine bodyPost_ret (results_none rfl _ _ _) rfl ?_;have hj:=HJ.out;rw[HN.out]at hj;rw[HAB.out];exact⟨rfl,⟨_,_,F,hj⟩,Kept.setCell (D:=fun k=>B≤k) (Kept.refl _ _) (.inl HBA.out) _⟩
set_option maxHeartbeats 600000 in
set_option maxRecDepth 100000 in
theorem lit_first {w:World} {B W:Nat} (h:RowAt w B W []) (t:List UInt8) (q:Bool) (hBw:B≤w.heap.size):
    Calls Tryz.prog 126 #[.pointer (some ⟨W,0,none⟩),txt t,.bool q] w fun e w'=>e= .returned (.tuple #[])∧RowAt w' B W [⟨1,t,[],[],q⟩]∧Kept (fun k=>B≤k) w w':=by
  obtain⟨v,vs,F,h⟩:=h;obtain⟨a,c,rfl⟩:=h.shape;have c0:=h.cell0;have f0:=h.frozen0;obtain⟨i0,hi0,hz0,hz1,hz2⟩:=info_parts infoPart;have HI:=yH (And.intro hi0 (And.intro hz0 (And.intro hz1 hz2)));have HO:=yH h.own;simp only[List.length_nil]at c0;have HC:=yH (show 0+1≤maxLen∧(0+1)*72≤140737488355328∧B≤w.heap.size from⟨by decide,by decide,hBw⟩);have cA:∀o1,(w.alloc o1).cell? ⟨W,0,none⟩=some (.slice a 0 c):=fun o1=>(World.cell?_alloc_lt _ _ _ h.lt).trans c0;obtain⟨b,hb⟩:∃b:ByteArray,b=⟨t.toArray⟩:=⟨_,rfl⟩;rw[show txt t= .string b by rw[hb];rfl];have HH:=yH h;have HTB:=yH hb;clear h hi0 hz0 hz1 hz2 hBw hb;go_enter Tryz.func126,Tryz.ntmps126;go_wp2_with fail
  go_region_law (refine step_append_lies _ (by rfl) (.tmp 55) (.tmp 60) 68 (by rfl) B 113 i0 (.agg zeroPart) 5 72 Tryz.underlying68 HI.out.1 HI.out.2.1 HI.out.2.2.1 HI.out.2.2.2 (by rfl) (by decide) _ _ _ (by rfl) ((HO.out.alloc _)) ⟨w.heap.size,0,none⟩ 1 1 zeroPart.toList (by rfl) (by rfl) (new_block w _ _) (by decide) (by decide) HC.out.1 HC.out.2.1 (by have:=HC.out.2.2;simp;omega) (w.heap.size+1) (by simp) ?_;intro g cap w1 hown hgrow hat hlt;have HG:=yH (show Grown w w1 B W _ vs [] g cap from⟨hown,hgrow,hat,hlt⟩);obtain⟨x0,x1,x2,x3,x4⟩:=HG.out.facts HH.out;have d0:=x3 0 (by decide);have d1:=x3 1 (by decide);have d2:=x3 2 (by decide);have d3:=x3 3 (by decide);have d4:=x3 4 (by decide);have e0:=x4 0;have e1:=x4 (0+1);have e2:=x4 (0+2);have e3:=x4 (0+3);have e4:=x4 (0+4);simp[zeroPart]at d0 d1 d2 d3 d4 e0 e1 e2 e3 e4;  clear hown hgrow hat hlt x3 x4)
  all_goals
    go_wp2_with fail
    go_end0
    have hb:=HTB.out;subst hb;refine⟨rfl,?_⟩
    first
      |(with_reducible refine Grown.putA (ps:= []) HH.out HG.out ⟨1,t,[],[],q⟩ (.slice none 0 0) ⟨_,WordV.nil _ (fun _=>False),fun _ h=>h.elim⟩ ?_ ?_ ?_ ?_ ?_ ?_ ?_ ?_)<;>rfl
      |(with_reducible refine Grown.putB (ps:= []) HH.out HG.out ⟨1,t,[],[],q⟩ (.slice none 0 0) ⟨_,WordV.nil _ (fun _=>False),fun _ h=>h.elim⟩ ?_ ?_ ?_ ?_ ?_ ?_ ?_ ?_)<;>rfl
set_option maxHeartbeats 600000 in
set_option maxRecDepth 100000 in
theorem lit_more {w:World} {B W:Nat} {ps:List Pt} {p:Pt} (h:RowAt w B W (ps++ [p])) (t:List UInt8) (q:Bool) (hno:¬(p.kind=1∧p.q=q)) (hn:ps.length≤10000) (hBw:B≤w.heap.size):
    Calls Tryz.prog 126 #[.pointer (some ⟨W,0,none⟩),txt t,.bool q] w fun e w'=>e= .returned (.tuple #[])∧RowAt w' B W (ps++ [p]++ [⟨1,t,[],[],q⟩])∧Kept (fun k=>B≤k) w w':=by
  obtain⟨pk,T,O,D,pq⟩:=p;simp only at hno;obtain⟨v,vs,F,h⟩:=h;obtain⟨A,cp,vs0,u,rfl,rfl,hl,hB,hA,hAW,hc,hf⟩:=h.form;have c0:=h.cell0;have f0:=h.frozen0;have k0:=hc 0 (by omega);have k4:=hc 4 (by omega);simp only[pcells,List.getElem?_cons_zero,List.getElem?_cons_succ,Nat.add_zero]at k0 k4;obtain⟨i0,hi0,hz0,hz1,hz2⟩:=info_parts infoPart;have HI:=yH (And.intro hi0 (And.intro hz0 (And.intro hz1 hz2)));have ho:=h.own;have hln:(ps++ [(⟨pk,T,O,D,pq⟩:Pt)]).length=ps.length+1:=(by simp);rw[hln]at ho;obtain⟨n,hn'⟩:∃n,ps.length=n:=⟨_,rfl⟩;rw[hn']at c0 k0 k4 ho hln;have HO:=yH ho;have HN:=yH hn';have HLN:=yH hln;have HC:=yH (show n+1+1≤maxLen∧(n+1+1)*72≤140737488355328∧B≤w.heap.size from⟨by unfold maxLen;omega,by omega,hBw⟩);have cA:∀o1,(w.alloc o1).cell? ⟨W,0,none⟩=some (.slice (some ⟨A,0,none⟩) (n+1) cp):=fun o1=>(World.cell?_alloc_lt _ _ _ h.lt).trans c0;obtain⟨b,hb⟩:∃b:ByteArray,b=⟨t.toArray⟩:=⟨_,rfl⟩;rw[show txt t= .string b by rw[hb];rfl];have HH:=yH (show RowO w B W (.slice (some ⟨A,0,none⟩) (n+1) cp) (vs0++ [u]) F (ps++ [⟨pk,T,O,D,pq⟩]) by rw[←hn'];exact h);have HTB:=yH hb;have hn1:(n:Int)≤10000:=(by omega);have hn0:(0:Int)≤n:=(by omega);have hn2:(0:Int)≤(n:Int)+1:=(by omega);have hn3:(n:Int)<(n:Int)+1:=(by omega);clear h hi0 hz0 hz1 hz2 hBw hb hc hf hl hB hA hn hn' ho hln
  by_cases hk:pk=1
  · have hq:¬pq=q:=fun e=>hno ⟨hk,e⟩
    have hqq:(pq==q)=false:=(by simpa using hq);subst hk;clear hno hq;go_enter Tryz.func126,Tryz.ntmps126;go_wp2_with fail
    go_region_law (refine step_append_lies _ (by rfl) (.tmp 55) (.tmp 60) 68 (by rfl) B 113 i0 (.agg zeroPart) 5 72 Tryz.underlying68 HI.out.1 HI.out.2.1 HI.out.2.2.1 HI.out.2.2.2 (by rfl) (by decide) _ _ _ (by rfl) ((HO.out.alloc _)) ⟨w.heap.size,0,none⟩ 1 1 zeroPart.toList (by rfl) (by rfl) (new_block w _ _) (by decide) (by decide) HC.out.1 HC.out.2.1 (by have:=HC.out.2.2;simp;omega) (w.heap.size+1) (by simp) ?_;intro g cap w1 hown hgrow hat hlt;have HG:=yH (show Grown w w1 B W _ (vs0++ [u]) (ps++ [⟨1,T,O,D,pq⟩]) g cap from⟨by rw[HLN.out];exact hown,hgrow,hat,hlt⟩);obtain⟨x0,x1,x2,x3,x4⟩:=HG.out.facts HH.out;have d0:=x3 0 (by decide);have d1:=x3 1 (by decide);have d2:=x3 2 (by decide);have d3:=x3 3 (by decide);have d4:=x3 4 (by decide);have e0:=x4 ((n+1)*5);have e1:=x4 (((n+1)*5)+1);have e2:=x4 (((n+1)*5)+2);have e3:=x4 (((n+1)*5)+3);have e4:=x4 (((n+1)*5)+4);rw[HLN.out]at d0 d1 d2 d3 d4;simp[zeroPart]at d0 d1 d2 d3 d4;clear hown hgrow hat hlt x3 x4)
    all_goals
      go_wp2_with fail
      go_end0
      have hb:=HTB.out;subst hb;refine⟨rfl,?_⟩
      first
        |(with_reducible refine Grown.putA (ps:=ps++ [⟨1,T,O,D,pq⟩]) HH.out HG.out ⟨1,t,[],[],q⟩ (.slice none 0 0) ⟨_,WordV.nil _ (fun _=>False),fun _ h=>h.elim⟩ ?_ ?_ ?_ ?_ ?_ ?_ ?_ ?_)<;>first|rfl|(rw[HLN.out])
        |(with_reducible refine Grown.putB (ps:=ps++ [⟨1,T,O,D,pq⟩]) HH.out HG.out ⟨1,t,[],[],q⟩ (.slice none 0 0) ⟨_,WordV.nil _ (fun _=>False),fun _ h=>h.elim⟩ ?_ ?_ ?_ ?_ ?_ ?_ ?_ ?_)<;>first|rfl|(rw[HLN.out])
  · have hkk:(pk==1)=false:=by simpa using hk
    clear hno hk;go_enter Tryz.func126,Tryz.ntmps126;go_wp2_with fail
    go_region_law (refine step_append_lies _ (by rfl) (.tmp 55) (.tmp 60) 68 (by rfl) B 113 i0 (.agg zeroPart) 5 72 Tryz.underlying68 HI.out.1 HI.out.2.1 HI.out.2.2.1 HI.out.2.2.2 (by rfl) (by decide) _ _ _ (by rfl) ((HO.out.alloc _)) ⟨w.heap.size,0,none⟩ 1 1 zeroPart.toList (by rfl) (by rfl) (new_block w _ _) (by decide) (by decide) HC.out.1 HC.out.2.1 (by have:=HC.out.2.2;simp;omega) (w.heap.size+1) (by simp) ?_;intro g cap w1 hown hgrow hat hlt;have HG:=yH (show Grown w w1 B W _ (vs0++ [u]) (ps++ [⟨pk,T,O,D,pq⟩]) g cap from⟨by rw[HLN.out];exact hown,hgrow,hat,hlt⟩);obtain⟨x0,x1,x2,x3,x4⟩:=HG.out.facts HH.out;have d0:=x3 0 (by decide);have d1:=x3 1 (by decide);have d2:=x3 2 (by decide);have d3:=x3 3 (by decide);have d4:=x3 4 (by decide);have e0:=x4 ((n+1)*5);have e1:=x4 (((n+1)*5)+1);have e2:=x4 (((n+1)*5)+2);have e3:=x4 (((n+1)*5)+3);have e4:=x4 (((n+1)*5)+4);rw[HLN.out]at d0 d1 d2 d3 d4;simp[zeroPart]at d0 d1 d2 d3 d4;clear hown hgrow hat hlt x3 x4)
    all_goals
      go_wp2_with fail
      go_end0
      have hb:=HTB.out;subst hb;refine⟨rfl,?_⟩
      first
        |(with_reducible refine Grown.putA (ps:=ps++ [⟨pk,T,O,D,pq⟩]) HH.out HG.out ⟨1,t,[],[],q⟩ (.slice none 0 0) ⟨_,WordV.nil _ (fun _=>False),fun _ h=>h.elim⟩ ?_ ?_ ?_ ?_ ?_ ?_ ?_ ?_)<;>first|rfl|(rw[HLN.out])
        |(with_reducible refine Grown.putB (ps:=ps++ [⟨pk,T,O,D,pq⟩]) HH.out HG.out ⟨1,t,[],[],q⟩ (.slice none 0 0) ⟨_,WordV.nil _ (fun _=>False),fun _ h=>h.elim⟩ ?_ ?_ ?_ ?_ ?_ ?_ ?_ ?_)<;>first|rfl|(rw[HLN.out])
end Go.Proofs.YtakceggnadagmaaGreatDoor
