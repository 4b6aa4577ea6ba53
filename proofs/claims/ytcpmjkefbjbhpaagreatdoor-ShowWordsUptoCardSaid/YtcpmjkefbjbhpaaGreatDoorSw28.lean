/-
  Proved: contracts of functions, plain facts. Conditions: as each says.
-/
import Derived.Test.YtcpmjkefbjbhpaaGreatDoorSw00
import Derived.Test.YtcpmjkefbjbhpaaGreatDoorSw01
import Derived.Test.YtcpmjkefbjbhpaaGreatDoorSw02
import Derived.Shelf.Strings.BuilderRune
import Derived.Lib.OthersKept
import Derived.RegionTactic
import Derived.Test.YtcpmjkefbjbhpaaGreatDoorSw26
namespace Go.Proofs.YtcpmjkefbjbhpaaGreatDoor
open Go Go.RowKit GlyphMath LexMath TreeMath ShowMath
theorem wr_size:(Tryz.prog.info? 83).map (·.size)=some 2:=by kernel_rfl
theorem wr_lies:liesAt Tryz.prog Tryz.prog.depth 85 (3/Tryz.prog.cellsOf 85) 1 83 1=true:=by kernel_rfl
theorem u8_info:(Tryz.prog.info? 5).map (fun i=>(i.zero,i.size,i.bytes))=some (some (.int .u8 0),1,1):=by kernel_rfl
def WrAt (w:World) (B b:Nat) (nv p:Value) (l:List UInt8):Prop:=
  B≤b∧∃v,w.heap[b]? =some (.cells #[nv,p,v] 85 (0,0))∧w.ownsRowF B 5 1 v (Lib.byteCells l).length (Lib.byteCells l)∧v.ownBlock≠some b
def Wr (w:World) (B b:Nat) (nv:Value) (l:List UInt8):Prop:=∃p,(p= .pointer none∨p= .pointer (some ⟨b,1,none⟩))∧WrAt w B b nv p l
structure Ws (B b:Nat) (w w':World):Prop where
  below:Below B w w'
  others:Lib.OthersKept 5 (some b) w w'
theorem Ws.refl (B b:Nat) (w:World):Ws B b w w:=⟨Below.refl B w,Lib.OthersKept.refl _ _ w⟩
theorem Ws.trans {B b:Nat} {w w1 w2:World} (h:Ws B b w w1) (k:Ws B b w1 w2):Ws B b w w2:=⟨h.below.trans k.below,h.others.trans k.others⟩
theorem Ws.alloc {B b:Nat} {w w1:World} (h:Ws B b w w1) (hB:B≤w.heap.size) (o:Obj):Ws B b w (w1.alloc o):=⟨h.below.alloc (Nat.le_trans hB h.below.size) o,h.others.alloc o⟩
theorem Ws.set {B b:Nat} {w w1:World} (h:Ws B b w w1) (hb:B≤b) (j:Nat) (v:Value):Ws B b w (w1.setCell ⟨b,j,none⟩ v):=⟨h.below.setCell (p:=⟨b,j,none⟩) hb v,h.others.setCell ⟨b,j,none⟩ rfl v⟩
theorem Ws.keeps {B b:Nat} {w w1:World} (h:Ws B b w w1) {k:Nat} {o:Obj} (hk:w.heap[k]? =some o) (hb:k≠b) (ho:∀c fz,o≠ .cells c 5 fz):w1.heap[k]? =some o:=h.others k o hk (fun e=>hb (Option.some.inj e)) ho
theorem Wr.lt {w:World} {B b:Nat} {nv:Value} {l:List UInt8} (h:Wr w B b nv l):b<w.heap.size:=by
  obtain⟨p, -, -,v,hb, -⟩:=h;exact(gS.1 hb).1
theorem WrAt.set1 {w:World} {B b:Nat} {nv p:Value} {l:List UInt8} (h:WrAt w B b nv p l) (q:Value):WrAt (w.setCell ⟨b,1,none⟩ q) B b nv q l:=by
  obtain⟨hB,v,hb,hown,hne⟩:=h;refine⟨hB,v,?_,?_,hne⟩
  · simp[World.setCell,Array.getElem?_modify,hb]
  · exact hown.kept (row:=some b) ⟨rfl,rfl,rfl,by simp[World.setCell],fun k _ hk=>Below.heap_setCell _ _ _ _ (fun e=>hk (by simp[e]))⟩ (Or.inr hne)
theorem WrAt.put {w:World} {B b:Nat} {nv p v v':Value} {l:List UInt8} (hB:B≤b) (hb:w.heap[b]? =some (.cells #[nv,p,v] 85 (0,0))) (hown:w.ownsRowF B 5 1 v' (Lib.byteCells l).length (Lib.byteCells l)):WrAt (w.setCell ⟨b,2,none⟩ v') B b nv p l:=by
  have hne:=Lib.ownBlock_neF hown hb (by decide);refine⟨hB,v',?_,?_,hne⟩
  · simp[World.setCell,Array.getElem?_modify,hb]
  · exact hown.kept (row:=some b) ⟨rfl,rfl,rfl,by simp[World.setCell],fun k _ hk=>Below.heap_setCell _ _ _ _ (fun e=>hk (by simp[e]))⟩ (Or.inr hne)
theorem Wr.alloc {w:World} {B b:Nat} {nv:Value} {l:List UInt8} (h:Wr w B b nv l) (o:Obj):Wr (w.alloc o) B b nv l:=by
  have hlt:=h.lt;obtain⟨p,hp,hB,v,hb,hown,hne⟩:=h;exact⟨p,hp,hB,v,(Lib.alloc_old w o b hlt).trans hb,hown.kept (World.grownBy_alloc w o none) (by cases hv:v.ownBlock<;>simp),hne⟩
theorem Wr.nodes {w:World} {B b:Nat} {nv:Value} {l:List UInt8} (h:Wr w B b nv l):w.cell? ⟨b,0,none⟩=some nv:=by
  obtain⟨p, -, -,v,hb, -⟩:=h;rw[Lib.cell_of_heap hb];rfl
set_option maxRecDepth 100000 in
theorem wcheck_any (B b:Nat) (nv:Value) (l:List UInt8) (w:World) (h:Wr w B b nv l):
    Calls Tryz.prog 158 #[.pointer (some ⟨b,1,none⟩)] w fun e w'=>e= .returned (.tuple #[])∧WrAt w' B b nv (.pointer (some ⟨b,1,none⟩)) l∧Ws B b w w':=by
  obtain⟨j,hj,hjs⟩:=Option.map_eq_some_iff.1 wr_size;obtain⟨p,hp,hA⟩:=h;have hB:=hA.1;have HF:=yH (hA.set1 (.pointer (some ⟨b,1,none⟩)));have HA:=yH hA;obtain⟨-,v,hb, -, -⟩:=hA;have h0:w.cell? ⟨b,1,none⟩=some p:=(by rw[Lib.cell_of_heap hb];rfl);have hfz:w.frozen? ⟨b,1,none⟩=false:=Lib.frozen_of_heap hb 1;have hsh:w.shape? b=some (85,3):=(by simp[World.shape?,hb]);clear hb
  rcases hp with rfl|rfl
  · go_enter Tryz.func158,Tryz.ntmps158
    go_wp2_with fail;rw[Lib.run_to_unsafe w ⟨b,1,none⟩ Tryz.underlying80 Tryz.underlying212 hj (by rw[hjs];decide) hsh (by show 1<3;decide)];simp only[Result.andThen];rw[Oper.upon_value];go_wp2_with fail;rw[run_callFunc_extern Tryz.func187 (by kernel_rfl) (by kernel_rfl) (by kernel_rfl) (e:=Extern.AbiNoEscape.same) (by kernel_rfl)];rw[Lib.run_noEscape];simp only[Result.andThen];rw[Oper.upon_value];go_wp2_with fail;rw[Lib.run_from_unsafe w ⟨b,1,none⟩ Tryz.underlying212 Tryz.underlying80 hj hsh wr_lies];simp only[Result.andThen];rw[Oper.upon_value];go_wp2_with fail
    go_end0
    exact⟨rfl,HF.out,(Ws.refl B b w).set hB 1 _⟩
  · go_enter Tryz.func158,Tryz.ntmps158
    go_wp2_with fail;rw[Lib.run_neq_ptr_same w _ Tryz.underlying80 hj];go_wp2_with fail
    go_end0
    exact⟨rfl,HA.out,Ws.refl B b w⟩
set_option maxHeartbeats 1000000 in
set_option maxRecDepth 100000 in
theorem wstring_any (B b:Nat) (nv:Value) (l s:List UInt8) (w:World) (h:Wr w B b nv l) (hl:l.length+s.length≤1073741824) (hB:B≤w.heap.size):
    Calls Tryz.prog 119 #[.pointer (some ⟨b,1,none⟩),.string (T s)] w fun e w'=>(∃n,e= .returned (.tuple #[.int .i64 n,.nilIface]))∧Wr w' B b nv (l++s)∧Ws B b w w':=by
  have HC:=yH (wcheck_any B b nv l w h);have HL:=yH hl;have HBW:=yH hB;have HT:=yH (show Lib.strCells (T s)=Lib.byteCells s from rfl);have HZ:=yH (show(T s).size=s.length from T_size s);obtain⟨i0,hi,hz0,hz1,hz2⟩:=info_parts u8_info;obtain⟨S,hS⟩:∃S,T s=S:=⟨_,rfl⟩;rw[hS]at HT HZ ⊢;clear h hl hB hS;go_enter Tryz.func119,Tryz.ntmps119
  go_wp2_with (go_at_call 158;refine HC.out.mono ?_)
  rintro e w1 ⟨rfl,⟨hbB,v,hbk,hown,hne⟩,hs1⟩;have c1:w1.cell? ⟨b,2,none⟩=some v:=(by rw[Lib.cell_of_heap hbk];rfl)
  go_wp2_with (at_builtin;refine Lib.wpList_append_own_stringF _ rfl _ _ 81 9 rfl B 5 i0 Tryz.underlying81 Tryz.underlying9 hi hz0 hz1 hz2 _ _ _ rfl hown S rfl ?c3 ?c4 ?c5 ?_)
  case c3=>have:=HL.out;have:=HZ.out;rw[Lib.byteCells_length];unfold maxLen;omega
  case c4=>have:=HL.out;have:=HZ.out;rw[Lib.byteCells_length];omega
  case c5=>have:=hs1.below.size;have:=HBW.out;omega
  intro v' w2 hown' hgrow _;have hlt:b<w1.heap.size:=(gS.1 hbk).1
  have hb2:w2.heap[b]? =some (.cells #[nv,.pointer (some ⟨b,1,none⟩),v] 85 (0,0)):=by
    rw[hgrow.block b hlt (fun e=>hne e.symm)];exact hbk
  have d1:w2.cell? ⟨b,2,none⟩=some v:=(by rw[Lib.cell_of_heap hb2];rfl);have f1:w2.frozen? ⟨b,2,none⟩=false:=Lib.frozen_of_heap hb2 2
  obtain⟨ao,n',cap,rfl⟩:∃ao n' cap,v'= .slice ao n' cap:=by
    rcases hown'.2 with ⟨hv,_⟩|⟨g,cap,cur,fz,hv,_⟩
    · exact⟨_,_,_,hv⟩
    · exact⟨_,_,_,hv⟩
  have HW:=yH (show Ws B b w w2 from⟨hs1.below.grown hgrow (by have:=hs1.below.size;have:=HBW.out;omega) (fun k hk=>(hown.lt k hk).1),hs1.others.grown hgrow (Lib.ownsRowF_kind hown)⟩);rw[HT.out,←Lib.byteCells_append]at hown';have HO:=yH hown';clear hown' hgrow hown hne hbk hs1;go_wp2_with fail
  go_ret2
  refine⟨⟨_,rfl⟩,⟨_,.inr rfl,WrAt.put hbB hb2 (l:=l++s) ?_⟩,HW.out.set hbB 2 _⟩;have e:(Lib.byteCells l).length+S.size=(Lib.byteCells (l++s)).length:=(by rw[Lib.byteCells_length,Lib.byteCells_length,List.length_append,HZ.out]);rw[←e];exact HO.out
theorem eb_rune {r:Nat} (h:GoodL r):Lib.encodeRune (r:Int)=eb r:=by
  obtain⟨h0,h1,h2⟩:=h;unfold Lib.encodeRune eb
  by_cases k1:r<128
  · rw[Lib.encodeRuneZ_one (by omega) (by omega),if_pos k1];simp[UInt8.ofNat,Int.toNat]
  · rw[if_neg k1]
    by_cases k2:r<2048
    · rw[Lib.encodeRuneZ_two (by omega) (by omega),if_pos k2]
      have e1:(192+(r:Int)/64).toNat=192+r/64:=(by omega);have e2:(128+(r:Int) % 64).toNat=128+r % 64:=(by omega);simp[e1,e2]
    · rw[if_neg k2]
      by_cases k3:r<65536
      · rw[Lib.encodeRuneZ_three (by omega),if_pos k3]
        have e1:(224+(r:Int)/4096).toNat=224+r/4096:=(by omega);have e2:(128+(r:Int)/64 % 64).toNat=128+r/64 % 64:=(by omega);have e3:(128+(r:Int) % 64).toNat=128+r % 64:=(by omega);simp[e1,e2,e3]
      · rw[Lib.encodeRuneZ_four (by omega) (by omega),if_neg k3]
        have e1:(240+(r:Int)/262144).toNat=240+r/262144:=(by omega);have e2:(128+(r:Int)/4096 % 64).toNat=128+r/4096 % 64:=(by omega);have e3:(128+(r:Int)/64 % 64).toNat=128+r/64 % 64:=(by omega);have e4:(128+(r:Int) % 64).toNat=128+r % 64:=(by omega);simp[e1,e2,e3,e4]
set_option maxHeartbeats 1000000 in
set_option maxRecDepth 100000 in
theorem wrune_any (B b:Nat) (nv:Value) (l:List UInt8) (r:Nat) (hr:GoodL r) (w:World) (h:Wr w B b nv l) (hl:l.length≤1073741824) (hB:B≤w.heap.size):
    Calls Tryz.prog 133 #[.pointer (some ⟨b,1,none⟩),.int .i32 (r:Int)] w fun e w'=>(∃n,e= .returned (.tuple #[.int .i64 n,.nilIface]))∧Wr w' B b nv (l++eb r)∧Ws B b w w':=by
  have HC:=yH (wcheck_any B b nv l w h);have HE:=yH (eb_rune hr);have hr1:=hr.2.1;have HL:=yH hl;have HBW:=yH hB;clear h hr hl hB;go_enter Tryz.func133,Tryz.ntmps133;go_wp2_with fail;refine HC.out.mono ?_;rintro e w1 ⟨rfl,⟨hbB,v,hbk,hown,hne⟩,hs1⟩
  obtain⟨ao,cap,rfl⟩:∃ao cap,v= .slice ao (Lib.byteCells l).length cap:=by
    rcases hown.2 with ⟨hv,h0⟩|⟨g,cap,cur,fz,hv,_⟩
    · exact⟨none,0,by rw[hv,h0]⟩
    · exact⟨_,_,hv⟩
  obtain⟨N,hN⟩:∃N,(Lib.byteCells l).length=N:=⟨_,rfl⟩;have hNl:N≤1073741824:=(by rw[←hN,Lib.byteCells_length];exact HL.out);rw[hN]at hown hne hbk;have c1:w1.cell? ⟨b,2,none⟩=some (.slice ao N cap):=(by rw[Lib.cell_of_heap hbk];rfl);have HO:=yH hown;have HNE:=yH hne;have HK:=yH hbk;have HB1:=yH hs1;have HNN:=yH hN;have HNL:=yH hNl;clear hown hne hbk hs1 hN hNl;go_wp2_with fail;refine(Tryz.utf8_AppendRune_row B _ N (Lib.byteCells l) (r:Int) (by omega) (by omega) _ HO.out (by have:=HNL.out;omega) (by have:=HB1.out.below.size;have:=HBW.out;omega)).mono ?_;rintro e w2 ⟨v',rfl,hown',o,hgrow⟩;have hk4:=Lib.runeCells_le (r:Int);have hlt:b<w1.heap.size:=(gS.1 HK.out).1
  have hb2:w2.heap[b]? =some (.cells #[nv,.pointer (some ⟨b,1,none⟩),.slice ao N cap] 85 (0,0)):=by
    rw[hgrow.block b (by simp;omega) (fun e=>HNE.out e.symm),Lib.alloc_old w1 _ b hlt];exact HK.out
  have d1:w2.cell? ⟨b,2,none⟩=some (.slice ao N cap):=(by rw[Lib.cell_of_heap hb2];rfl);have f1:w2.frozen? ⟨b,2,none⟩=false:=Lib.frozen_of_heap hb2 2
  obtain⟨g,cap',rfl⟩:∃g cap',v'= .slice (some ⟨g,0,none⟩) (N+(Lib.runeCells (r:Int)).length) cap':=by
    rcases hown'.2 with ⟨_,h0⟩|⟨g,cap',cur,fz,hv,_⟩
    · omega
    · exact⟨g,cap',hv⟩
  have hws:Ws B b w w2:=by
    have h1:=(HB1.out).alloc HBW.out o;refine⟨h1.below.grown hgrow (by have:=h1.below.size;have:=HBW.out;omega) (fun k hk=>(HO.out.lt k hk).1),h1.others.grown hgrow fun g hg=> ?_⟩;obtain⟨c,fz,hh⟩:=Lib.ownsRowF_kind HO.out g hg;exact⟨c,fz,(Lib.alloc_old w1 o g (gS.1 hh).1).trans hh⟩
  have HH:=yH (And.intro hown' (And.intro hb2 hws));clear hown' hgrow hb2 hlt hk4 hws;go_wp2_with fail
  go_ret2
  obtain⟨k1,k2,k3⟩:=HH.out;refine⟨⟨_,rfl⟩,⟨_,.inr rfl,WrAt.put hbB k2 (l:=l++eb r) ?_⟩,k3.set hbB 2 _⟩;have e1:Lib.byteCells (l++eb r)=Lib.byteCells l++Lib.runeCells (r:Int):=(by rw[Lib.byteCells_append,←HE.out,Lib.byteCells_encodeRune]);rw[e1,List.length_append,HNN.out];exact k1
set_option maxHeartbeats 1000000 in
set_option maxRecDepth 100000 in
set_option linter.unusedVariables false in
theorem wtext_any (B b:Nat) (nv:Value) (l:List UInt8) (w:World) (h:Wr w B b nv l) (h0:l≠ []) (hB:B≤w.heap.size):
    Calls Tryz.prog 35 #[.pointer (some ⟨b,1,none⟩)] w fun e w'=>e= .returned (.string (T l))∧Ws B b w w':=by
  obtain⟨p,hp,hbB,v,hbk,hown,hne⟩:=h;have hl0:l.length≠0:=(by simpa using h0);rw[Lib.byteCells_length]at hown
  obtain⟨g,cap,cur,fz,rfl,hbg,hg,hfz,hnc,hcm,hcs,htake⟩:∃g cap cur fz,v= .slice (some ⟨g,0,none⟩) l.length cap∧B≤g∧w.heap[g]? =some (.cells cur 5 fz)∧fz.2≤l.length*1∧l.length≤cap∧cap≤maxLen∧cur.size=cap*1∧cur.toList.take (l.length*1)=Lib.byteCells l:=by
    rcases hown.2 with ⟨_,hz⟩|⟨g,cap,cur,fz,hv,r⟩
    · exact absurd hz hl0
    · exact⟨g,cap,cur,fz,hv,r⟩
  have hc0:w.cell? ⟨b,2,none⟩=some (.slice (some ⟨g,0,none⟩) l.length cap):=(by rw[Lib.cell_of_heap hbk];rfl);have c1:w.drew.cell? ⟨b,2,none⟩=some (.slice (some ⟨g,0,none⟩) l.length cap):=hc0
  have hSD:(Builtin.unsafeSliceData_ #[81] 127 #[.slice (some ⟨g,0,none⟩) l.length cap]).run Tryz.prog w.drew= .ok (.pointer (some ⟨g,0,none⟩)) w.drew:=
    Lib.run_unsafeSliceData_row _ _ _ _ _ _ (by omega)
  have hUS:(Builtin.unsafeString_ #[127,3] 9 #[.pointer (some ⟨g,0,none⟩),.int .i64 l.length]).run Tryz.prog w.drew= .ok (.string ⟨l.toArray⟩) (w.drew.freeze ⟨g,0,none⟩ l.length):=by
    refine Lib.run_unsafeString_row w.drew 127 3 9 5 Tryz.underlying127 (by kernel_rfl) g cur.size (by have hg':w.drew.heap[g]? =some (.cells cur 5 fz):=hg;simp[World.shape?,hg']) l h0 (by omega) (by unfold maxLen at hcm;omega) ?_;intro j x hx;have:=hown.cells (g:=g) rfl j (.int .u8 x.toNat) (by simp[Lib.byteCells,hx]);exact this
  have HW:=yH (show Ws B b w (w.drew.freeze ⟨g,0,none⟩ l.length)from ⟨Lib.below_freeze (Below.drew (Below.refl B w)) hbg _,((Lib.OthersKept.refl _ _ w).drew).freeze ⟨g,0,none⟩ _ ⟨cur,fz,hg⟩⟩);obtain⟨N,hN⟩:∃N,l.length=N:=⟨_,rfl⟩;rw[hN]at c1 hSD hUS HW;have hmx:Tryz.prog.follows .mixedOrders=true:=(by kernel_rfl);clear hown hbk hg hfz hnc hcm hcs htake hl0 h0 hc0 hne hN hp;go_enter Tryz.func35,Tryz.ntmps35;go_wp2_with fail
  go_region_o
  all_goals (go_wp2_with fail;go_ret;exact⟨rfl,HW.out⟩)
end Go.Proofs.YtcpmjkefbjbhpaaGreatDoor
namespace Go.Proofs.YtcpmjkefbjbhpaaGreatDoor
open Go Go.RowKit GlyphMath LexMath TreeMath ParseMath
theorem own_shape {w:World} {B e s n:Nat} {v:Value} {xs:List Value} (h:w.ownsRow B e s v n xs):∃a c,v= .slice a n c:=by
  rcases h.2 with ⟨hv,h0⟩|⟨g,cap,cur,hv,_⟩
  · exact⟨none,0,by rw[hv,h0]⟩
  · exact⟨_,_,hv⟩
theorem assign_info:(Tryz.prog.info? 144).map (·.size)=some 2:=by kernel_rfl
theorem below3 {w w1:World} (h:Below w.heap.size w w1) {D:Nat→Prop} {w2:World} (hk:Kept D w1 w2) (hD:∀k,D k→w.heap.size≤k):Below w.heap.size w w2:=h.trans ⟨hk.os,hk.tape,hk.output,hk.size,fun i hi=>hk.block i (by have:=h.size;omega) fun hd=>by have:=hD i hd;omega⟩
structure AsO (w0 w wr:World) (wv:Value) (P:Array Value):Prop where
  word:wr.heap[w.heap.size]? =some (.cells #[wv] 45 (0,0))
  res:wr.heap[w.heap.size+1]? =some (.cells #[.string ⟨#[]⟩,.slice none 0 0] 144 (0,0))
  part:wr.heap[w.heap.size+2]? =some (.cells P 55 (0,0))
  below:Below w.heap.size w wr
  base:Below w0.heap.size w0 wr
theorem AsO.new {w0 w wr w1:World} {wv:Value} {P:Array Value} (h:AsO w0 w wr wv P) (hb:Below wr.heap.size wr w1):AsO w0 w w1 wv P:=by
  have l1:=(gS.1 h.word).1;have l2:=(gS.1 h.res).1;have l3:=(gS.1 h.part).1;exact⟨(hb.block _ l1).trans h.word,(hb.block _ l2).trans h.res,(hb.block _ l3).trans h.part,h.below.trans (hb.mono h.below.size),h.base.trans (hb.mono h.base.size)⟩
theorem AsO.turn {D:Nat→Prop} {w0 w wr w1:World} {wv:Value} {P:Array Value} (h:AsO w0 w wr wv P) (h0:w0.heap.size≤w.heap.size) (hk:Kept D wr w1) (hD:∀k,D k→w.heap.size+3≤k):AsO w0 w w1 wv P:=
  ⟨hk.heap h.word (fun e=>by have:=hD _ e;omega),hk.heap h.res (fun e=>by have:=hD _ e;omega),hk.heap h.part (fun e=>by have:=hD _ e;omega),below_kept h.below hk (fun i hi=>by have:=hD i hi;omega) h.below.size,below_kept h.base hk (fun i hi=>by have:=hD i hi;omega) h.base.size⟩
theorem AsO.mk0 {w0 w:World} (hb:Below w0.heap.size w0 w) (wv:Value) (P:Array Value):AsO w0 w (((w.alloc (.cells #[wv] 45)).alloc (.cells #[.string ⟨#[]⟩,.slice none 0 0] 144)).alloc (.cells P 55)) wv P:=by
  have b1:=below_new w (.cells #[wv] 45);have b2:=below_new (w.alloc (.cells #[wv] 45)) (.cells #[.string ⟨#[]⟩,.slice none 0 0] 144);have b3:=below_new ((w.alloc (.cells #[wv] 45)).alloc (.cells #[.string ⟨#[]⟩,.slice none 0 0] 144)) (.cells P 55);have s1:(w.alloc (.cells #[wv] 45)).heap.size=w.heap.size+1:=(by simp);have s2:((w.alloc (.cells #[wv] 45)).alloc (.cells #[.string ⟨#[]⟩,.slice none 0 0] 144)).heap.size=w.heap.size+2:=(by simp);have n1:=heap_alloc_new w (.cells #[wv] 45);have n2:=heap_alloc_new (w.alloc (.cells #[wv] 45)) (.cells #[.string ⟨#[]⟩,.slice none 0 0] 144);have n3:=heap_alloc_new ((w.alloc (.cells #[wv] 45)).alloc (.cells #[.string ⟨#[]⟩,.slice none 0 0] 144)) (.cells P 55);rw[s1]at n2 b2;rw[s2]at n3 b3;have hbl:=(b1.trans (b2.mono (by omega))).trans (b3.mono (by omega));exact⟨((b3.block _ (by omega)).trans (b2.block _ (by omega))).trans n1,(b3.block _ (by omega)).trans n2,n3,hbl,hb.trans (hbl.mono hb.size)⟩
theorem wpList_adds {ops:Array Oper} {rest:List Oper} {o:Oper} {a:Act} {Q:Exit→Act→World→Prop} (hgd:o.guard=none) (s x:Operand) (ho:o.op= .call { callee:= .builtin .append,args:= #[s,x],argTypes:= #[43,43] })
    {w0 w:World} {B c m k n:Nat} {p:Option Addr} {css dss:List (List Value)} {ps qs:List Pt} {ad:Addr} (h:RowG w0 w 55 5 PartP B (.slice p n c) css ps (fun _=>False)) (hn:ps.length=n) (hl:dss.length=qs.length) (hq:∀(k:Nat) (ds:List Value) (q:Pt),dss[k]? =some ds→qs[k]? =some q→PartP w0 ds q) (hcel:∀ds∈dss,Cel 5 ds)
    (hcells:∀(j:Nat) (u:Value),dss.flatten[j]? =some u→w.cell? (ad.add j)=some u) (hs:a.eval s= .slice p n c) (hx:a.eval x= .slice (some ad) m k) (hm:qs.length=m) (hfew:n+m≤100001) (hB:B≤w.heap.size)
    (H:∀p' c' w',PaR w0 w' B (.slice p' (n+m) c') (ps++qs)→Kept (fun k=>(Value.slice p n c).ownBlock=some k) w w'→(n=0→p=none→c=0→m=0→p'=none∧c'=0)→wpList Tryz.prog ops Q rest (a.put o.dst (.slice p' (n+m) c')) w'):wpList Tryz.prog ops Q (o::rest) a w:=by
  obtain⟨i,h1,h2,h3,h4⟩:=info_parts infoPart
  refine wpList_append_own w hgd s x 43 ho B 55 i _ 5 72 Tryz.underlying43 h1 h2 h3 h4 rfl (by decide) (.slice p n c) n css.flatten hs (by rw[←hn];rw[←hn]at h;exact h.own) ad m k dss.flatten hx (by rw[flat_len hcel,hl,hm]) hcells (fun u hu=>by
    obtain⟨ds,hds,hu⟩:=List.mem_flatten.1 hu
    exact(hcel ds hds).2 u hu) (by unfold maxLen;omega) (by omega) hB ?_
  intro v' w' hown hg hnil;obtain⟨p',c',rfl⟩:=own_shape hown;refine H p' c' w' (PaR.adds h hl hq (by rw[hn,hm];exact hown)) ((Kept.refl (fun k=>(Value.slice p n c).ownBlock=some k) w).grown hg (fun k hk=> .inl hk)) (fun hn0 hp hc hm0=> ?_);have:=hnil.2 ⟨by rw[hn0,hp,hc],hm0⟩;simp only[Value.slice.injEq]at this;exact⟨this.1,this.2.2⟩
theorem assignO_some {q:Pt} {r:List Pt} {n:List UInt8} (h1:bareT q=true) (h2:aheadT q.text=some n) (h3:nameT n=true):assignO (q::r)=some (n,if restT q.text= []∧r= []then [⟨1,[],[],[],true⟩]else if restT q.text= []then r else⟨1,restT q.text,[],[],false⟩::r):=by
  simp only[assignO,h1,h2,h3,if_true]
theorem assignO_bare {q:Pt} {r:List Pt} (h1:bareT q=false):assignO (q::r)=none:=by simp[assignO,h1]
theorem assignO_none {q:Pt} {r:List Pt} (h1:bareT q=true) (h2:aheadT q.text=none):assignO (q::r)=none:=by simp[assignO,h1,h2]
theorem assignO_name {q:Pt} {r:List Pt} {n:List UInt8} (h1:bareT q=true) (h2:aheadT q.text=some n) (h3:nameT n=false):assignO (q::r)=none:=by simp[assignO,h1,h2,h3]
end Go.Proofs.YtcpmjkefbjbhpaaGreatDoor
