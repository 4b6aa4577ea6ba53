/-
  Proved: contracts of functions, plain facts. Conditions: as each says.
-/
import Derived.Test.YtcpmjkefbjbhpaaGreatDoorSw28
import Derived.Test.YtcpmjkefbjbhpaaGreatDoorSw30
import Derived.Test.YtcpmjkefbjbhpaaGreatDoorSw05
import Derived.Test.YtcpmjkefbjbhpaaGreatDoorSw13
import Derived.Deep.QuietTactic
import Derived.Test.YtcpmjkefbjbhpaaGreatDoorSw20
import Derived.Test.YtcpmjkefbjbhpaaGreatDoorSw27
import Derived.Test.YtcpmjkefbjbhpaaGreatDoorSw19
import Derived.Test.YtcpmjkefbjbhpaaGreatDoorSw24
import Derived.Test.YtcpmjkefbjbhpaaGreatDoorLexCore
import Derived.Test.YtcpmjkefbjbhpaaGreatDoorSw00
import Derived.Lib.OthersKept
import Derived.Test.YtcpmjkefbjbhpaaGreatDoorSw02
import Derived.Shelf.Strings.BuilderRune
import Derived.Test.YtcpmjkefbjbhpaaGreatDoorSw01
import Derived.BigCall
import Derived.Deep.RegionLaw
import Derived.OneCell
import Derived.Laws.ResultCell
import Derived.OwnWalk
namespace Go.Proofs.YtcpmjkefbjbhpaaGreatDoor
open Go Go.RowKit GlyphMath LexMath TreeMath ShowMath
abbrev BigW:Nat:=536870912
def Puts (f:Nat) (args:Array Value) (B b:Nat) (nv:Value) (l s:List UInt8) (w:World):Prop:=
  Calls Tryz.prog f (#[.pointer (some ⟨b,0,none⟩)]++args) w fun e w'=>e= .returned (.tuple #[])∧Wr w' B b nv (l++s)∧Ws B b w w'
def TxAt (w:World) (a:Nat) (ss:List (List UInt8)):Prop:=w.heap[a]? =some (.cells (ss.map txt).toArray 9 (0,0))
theorem TxAt.get {w:World} {a:Nat} {ss:List (List UInt8)} (h:TxAt w a ss) {j:Nat} {s:List UInt8} (hj:ss[j]? =some s):w.cell? ⟨a,j,none⟩=some (txt s):=by
  rw[Lib.cell_of_heap h];simp[hj]
theorem TxAt.ws {w w':World} {B b a:Nat} {ss:List (List UInt8)} (h:TxAt w a ss) (hs:Ws B b w w') (hb:a≠b):TxAt w' a ss:=
  hs.keeps h hb fun c fz e=>by
    injection e with _ e _
    revert e;decide
set_option maxHeartbeats 1000000 in
set_option maxRecDepth 100000 in
theorem wput_any (B b a cp:Nat) (nv:Value) (l:List UInt8) (ss:List (List UInt8)) (w:World) (h:Wr w B b nv l) (ht:TxAt w a ss) (hab:a≠b) (hl:l.length+ss.flatten.length≤BigW) (hn:ss.length≤10) (hB:B≤w.heap.size):
    Puts 74 #[.slice (some ⟨a,0,none⟩) ss.length cp] B b nv l ss.flatten w:=by
  unfold Puts;show Calls Tryz.prog 74 #[.pointer (some ⟨b,0,none⟩),.slice (some ⟨a,0,none⟩) ss.length cp] w _;obtain⟨N,hN⟩:∃N,ss.length=N:=⟨_,rfl⟩;have HN:=yH hN;rw[hN]at hn ⊢;obtain⟨R,hR⟩:∃R,l++ss.flatten=R:=⟨_,rfl⟩;have HR:=yH (show l++(ss.drop 0).flatten=R from hR);have HL:=yH (show R.length≤BigW by rw[←hR,List.length_append];exact hl);rw[hR];have H0:=yH (And.intro h (And.intro ht (And.intro hab hB)));have hN0:(N:Int)≤10:=(by omega);clear h ht hab hl hB hR hN;go_enter Tryz.func74,Tryz.ntmps74;go_wp2_with fail
  go_loopw [8] (fun i wr=> ∃(j:Nat) (m:List UInt8),i= .int .i64 (j:Int)∧j≤N∧Wr wr B b nv m∧Ws B b w wr∧m++(ss.drop j).flatten=R) (fun i _=>N-(intOf i).toNat)
  case atStart=>exact⟨0,l,rfl,Nat.zero_le _,H0.out.1,Ws.refl _ _ _,HR.out⟩
  case round=>
    obtain⟨j,m,rfl,hj,hw,hs,hr⟩:=hrel
    by_cases hlt:j<N
    · obtain⟨x,hx⟩:∃x,ss[j]? =some x:=⟨_,List.getElem?_eq_getElem (by rw[HN.out];exact hlt)⟩
      have g0:=(H0.out.2.1.ws hs H0.out.2.2.1).get hx;rw[drop_get hx,List.flatten_cons,←List.append_assoc]at hr;have hlen:=congrArg List.length hr;simp only[List.length_append]at hlen;have HL1:=HL.out;have HC:=yH (wstring_any B b nv m x wr hw (by unfold BigW at HL1;omega) (Nat.le_trans H0.out.2.2.2 hs.below.size));have HRR:=yH hr;have HS:=yH hs;have HJ:=yH hlt;have hj0:(j:Int)<(N:Int):=(by omega);obtain⟨X,hX⟩:∃X,T x=X:=⟨_,rfl⟩;rw[hX]at HC;have c0:wr.cell? ⟨a,j,none⟩=some (.string X):=(by rw[←hX];exact g0);clear g0 hr hlen hw hs hj hlt hx hX HL1
      go_wp2_with (go_at_call 119;refine HC.out.mono ?_;rintro e w2 ⟨⟨n,rfl⟩,hw2,hs2⟩;have HW2:=yH (And.intro hw2 hs2);clear hw2 hs2)
      exact⟨⟨j+1,_,by simp,HJ.out,HW2.out.1,HS.out.trans HW2.out.2,HRR.out⟩,by have:=HJ.out;simp[intOf];omega⟩
    · obtain rfl:j=N:=by omega
      have hd:ss.drop j= []:=List.drop_of_length_le (by rw[HN.out];exact Nat.le_refl _);rw[hd,List.flatten_nil,List.append_nil]at hr;subst hr;have hj0:¬(j:Int)<(j:Int):=(by omega);have HW:=yH (And.intro hw hs);clear hw hs hd hj hlt;go_wp2_with fail
      go_end0
      exact⟨rfl,HW.out.1,HW.out.2⟩
theorem Wr.same {w w':World} {B b:Nat} {nv:Value} {l:List UInt8} (h:Wr w B b nv l) (hk:∀(k:Nat) (c:Array Value) (e:TypeId) (fz:Nat×Nat),w.heap[k]? =some (Obj.cells c e fz)→w'.heap[k]? =w.heap[k]?):Wr w' B b nv l:=by
  obtain⟨p,hp,hB,v,hb,⟨h1,h2⟩,hne⟩:=h;refine⟨p,hp,hB,v,(hk b _ _ _ hb).trans hb,⟨h1,?_⟩,hne⟩
  rcases h2 with h2|⟨g,cap,cur,fz,hv,hbg,hg,r⟩
  · exact .inl h2
  · exact .inr ⟨g,cap,cur,fz,hv,hbg,(hk g _ _ _ hg).trans hg,r⟩
theorem Wr.below {w w':World} {B b:Nat} {nv:Value} {l:List UInt8} (h:Wr w B b nv l) (hb:Below w.heap.size w w'):Wr w' B b nv l:=
  h.same fun k _ _ _ hk=>hb.block k (gS.1 hk).1
theorem Ws.of_below {B b:Nat} {w w1 w2:World} (h:Ws B b w w1) (hB:B≤w.heap.size) (hb:Below w1.heap.size w1 w2):Ws B b w w2:=
  ⟨h.below.trans (hb.mono (Nat.le_trans hB h.below.size)),fun k o hk hn ho=>by
    have:=h.others k o hk hn ho
    rw[hb.block k (gS.1 this).1];exact this⟩
theorem Ws.iter {B b:Nat} {w w1:World} (h:Ws B b w w1) {k:Nat} (hB:B≤w.heap.size) (hk:w.heap.size≤k) (s:ByteArray) (pos:Nat):Ws B b w (w1.iterAt k s pos):=
  ⟨Lib.below_iterAt h.below (by omega) s pos,fun j o hj hn ho=>by
    have hlt:j<w.heap.size:=(gS.1 hj).1
    rw[Lib.iterAt_other w1 k j s pos (by omega)];exact h.others j o hj hn ho⟩
theorem Wr.iter {w:World} {B b k pos pos':Nat} {s:ByteArray} {nv:Value} {l:List UInt8} (h:Wr w B b nv l) (hk:w.heap[k]? =some (.stringIter s pos)):Wr (w.iterAt k s pos') B b nv l:=
  h.same fun j _ _ _ hj=>Lib.iterAt_other w k j s pos' fun e=>by rw[e,hk]at hj;cases hj
theorem Ws.iter_keeps {B b:Nat} {w w1:World} (h:Ws B b w w1) {k pos:Nat} {s:ByteArray} (hk:w.heap[k]? =some (.stringIter s pos)) (hb:k≠b):w1.heap[k]? =some (.stringIter s pos):=h.keeps hk hb fun _ _ e=>by cases e
theorem wput_new (B b:Nat) (nv:Value) (l:List UInt8) (ss:List (List UInt8)) (w:World) (h:Wr w B b nv l) (hl:l.length+ss.flatten.length≤BigW) (hn:ss.length≤10) (hB:B≤w.heap.size):
    Calls Tryz.prog 74 #[.pointer (some ⟨b,0,none⟩),.slice (some ⟨w.heap.size,0,none⟩) ss.length ss.length] (w.alloc (.cells (ss.map txt).toArray 9)) fun e w'=>e= .returned (.tuple #[])∧Wr w' B b nv (l++ss.flatten)∧Ws B b w w':=by
  have hlt:=h.lt;refine(wput_any B b w.heap.size ss.length nv l ss (w.alloc (.cells (ss.map txt).toArray 9)) (h.alloc _) (heap_alloc_new w _) (by omega) hl hn (by simp;omega)).mono ?_;rintro e w' ⟨rfl,h1,h2⟩;exact⟨rfl,h1,((Ws.refl B b w).alloc hB _).trans h2⟩
set_option maxHeartbeats 2000000 in
set_option maxRecDepth 100000 in
theorem wletters_any (B b:Nat) (nv:Value) (l t:List UInt8) (ht:isText (T t)=true) (w:World) (h:Wr w B b nv l) (hl:l.length+(escT t).length≤BigW) (hB:B≤w.heap.size):
    Puts 124 #[.string (T t)] B b nv l (escT t) w:=by
  unfold Puts;show Calls Tryz.prog 124 #[.pointer (some ⟨b,0,none⟩),.string (T t)] w _;have hnone:=text_none ht;obtain⟨R,hR⟩:∃R,l++escT t=R:=⟨_,rfl⟩
  have hE:escT t=escL (rest (T t) 0):=by
    rw[rest_zero,←escL_enc _ (text_good ht).2];have:=rest_bytes (T t) _ 0 (Nat.le_refl _) (Nat.zero_le _) (by rw[badFrom_zero];exact hnone);rw[rest_zero,List.drop_zero]at this;rw[←this]
  have HL:=yH (show R.length≤BigW by rw[←hR,List.length_append];exact hl);rw[hR];rw[hE]at hR;obtain⟨S,hS⟩:∃S,T t=S:=⟨_,rfl⟩;rw[hS]at hR hnone ⊢;have HR:=yH hR;have HN:=yH (show badFrom S 0=none from hnone);have H0:=yH (And.intro h hB);have hlt:=h.lt;have HLT:=yH hlt;clear h hl hB hR hE hS ht hnone hlt;go_enter Tryz.func124,Tryz.ntmps124;go_wp2_with fail
  go_loopw [] (fun wr=> ∃(pos:Nat) (m:List UInt8),wr.heap[w.heap.size]? =some (.stringIter S pos)∧pos≤S.size∧Wr wr B b nv m∧Ws B b w wr∧m++escL (rest S pos)=R∧badFrom S pos=none) (fun wr=>S.size-wr.iterPos w.heap.size)
  case atStart=>exact⟨0,l,(show(w.iter S 0).heap[w.heap.size]? =some (.stringIter S 0)from by unfold World.iter;exact heap_alloc_new w _),Nat.zero_le _,H0.out.1.below (below_iter w S 0),(Ws.refl B b w).of_below H0.out.2 (below_iter w S 0),HR.out,HN.out⟩
  case round=>
    obtain⟨pos,m,hit,hle,hw,hs,hr,hbad⟩:=hrel;have hB2:=Nat.le_trans H0.out.2 hs.below.size
    by_cases hp:pos<S.size
    · have hb0:bad S pos=false:=by
        have:=badFrom_step S pos hp
        cases hb:bad S pos with
        |false=>rfl
        |true=>rw[hb,if_pos rfl,hbad]at this;cases this
      have hbad2:badFrom S (pos+(Utf8.decode S pos).2)=none:=by
        have:=badFrom_step S pos hp;rw[hb0,if_neg (by simp),hbad]at this;exact this.symm
      obtain⟨hg, -⟩:=dec_good S pos hb0;have hwl:=width_le S pos hp;have hwp:=width_pos S pos hp;rw[rest_step S pos hp]at hr;obtain⟨r,d,hd⟩:∃r d,Utf8.decode S pos=(r,d):=⟨_,_,rfl⟩;rw[hd]at hbad2 hg hwl hwp hr;simp only at hbad2 hg hwl hwp hr;have hnx:∀ty,(Instr.next (.pointer (some ⟨w.heap.size,0,none⟩)) true ty).run Tryz.prog wr= .ok (.tuple #[.bool true,.int .i64 pos,.int .i32 (r:Int)]) (wr.iterAt w.heap.size S (pos+d)):=fun ty=>(by rw[Lib.run_next_any_at wr w.heap.size S pos ty hit hp,hd]);have hit2:=Lib.iterAt_heap wr w.heap.size S pos (pos+d) hit;have hs2:=hs.iter (k:=w.heap.size) H0.out.2 (Nat.le_refl _) S (pos+d);have hw2:=hw.iter (pos':=pos+d) hit;obtain⟨W,hW⟩:∃W,wr.iterAt w.heap.size S (pos+d)=W:=⟨_,rfl⟩;rw[hW]at hnx hit2 hs2 hw2;have hne:w.heap.size≠b:=(by have:=HLT.out;omega);rw[escL]at hr;have hlen:=congrArg List.length hr;simp only[List.length_append]at hlen;have HL1:=HL.out;have HC:=yH (crune_in ⟨#[34,36,92]⟩ (by decide) (by decide) r (.inr hg) W)
      have hacts:inSet [34,36,92] r=acts r:=by
        by_cases h128:r<128
        · have hall:(List.range 128).all (fun n=>inSet [34,36,92] n==acts n)=true:=by decide+kernel
          have:=List.all_eq_true.1 hall r (List.mem_range.2 h128)
          simpa using this
        · unfold inSet acts
          rw[decide_eq_false h128,Bool.false_and]
          symm
          simp only[Bool.or_eq_false_iff,beq_eq_false_iff_ne];omega
      have HX:=yH (And.intro hit2 (And.intro hwl (And.intro hwp (And.intro hbad2 (And.intro hne hit)))));have HG:=yH hg;have HS:=yH (And.intro hs2 hw2);rw[show (⟨#[34,36,92]⟩:ByteArray).data.toList= [34,36,92]from rfl,hacts]at HC;clear hit hle hw hs hb0 hbad hbad2 hg hwl hwp hd hit2 hs2 hw2 hW hacts
      cases ha:acts r with
      |true=>
        rw[ha]at HC hr hlen;rw[if_pos rfl]at hr hlen;have HRR:=yH (show((m++ [92])++eb r)++escL (rest S (pos+d))=R from by rw[←hr];simp);have HP:=yH (fun W (hw:Wr W B b nv m) (hB:B≤W.heap.size)=>wput_new B b nv m [[92]] W hw (by show m.length+1≤BigW;simp at hlen;omega) (by decide) hB);have HQ:=yH (fun W (hw:Wr W B b nv (m++ [92])) (hB:B≤W.heap.size)=>wrune_any B b nv (m++ [92]) r HG.out W hw (by unfold BigW at HL1;simp at hlen ⊢;omega) hB);clear hr hlen HL1 ha
        go_wp2_with (first|(go_at_call 162;refine HC.out.mono ?_;rintro e w1 ⟨rfl,hb1⟩;have HB1:=yH hb1;clear hb1)|(go_at_call 74;refine(HP.out _ (HS.out.2.below HB1.out) (Nat.le_trans H0.out.2 (HS.out.1.of_below H0.out.2 HB1.out).below.size)).mono ?_;rintro e w2 ⟨rfl,hw2,hs2⟩;have H2:=yH (And.intro hw2 ((HS.out.1.of_below H0.out.2 HB1.out).trans hs2));have HI2:=yH (hs2.iter_keeps ((HB1.out.block _ (gS.1 HX.out.1).1).trans HX.out.1) HX.out.2.2.2.2.1);clear hw2 hs2)|(go_at_call 133;refine(HQ.out _ H2.out.1 (Nat.le_trans H0.out.2 H2.out.2.below.size)).mono ?_;rintro e w3 ⟨⟨n,rfl⟩,hw3,hs3⟩;have H3:=yH (And.intro hw3 (And.intro (H2.out.2.trans hs3) (hs3.iter_keeps HI2.out HX.out.2.2.2.2.1)));clear hw3 hs3))
        go_roundw
        case rel=>exact⟨pos+d,_,H3.out.2.2,HX.out.2.1,H3.out.1,H3.out.2.1,HRR.out,HX.out.2.2.2.1⟩
        case measure=>
          have e1:=H3.out.2.2;have e2:=HX.out.2.2.2.2.2;have:=HX.out.2.1;have:=HX.out.2.2.1;simp only[World.iterPos,e1,e2];omega
      |false=>
        rw[ha]at HC hr hlen;rw[if_neg (by simp)]at hr hlen;have HRR:=yH (show(m++eb r)++escL (rest S (pos+d))=R from by rw[←hr];simp);have HQ:=yH (fun W (hw:Wr W B b nv m) (hB:B≤W.heap.size)=>wrune_any B b nv m r HG.out W hw (by unfold BigW at HL1;simp at hlen;omega) hB);clear hr hlen HL1 ha
        go_wp2_with (first|(go_at_call 162;refine HC.out.mono ?_;rintro e w1 ⟨rfl,hb1⟩;have HB1:=yH hb1;clear hb1)|(go_at_call 133;refine(HQ.out _ (HS.out.2.below HB1.out) (Nat.le_trans H0.out.2 (HS.out.1.of_below H0.out.2 HB1.out).below.size)).mono ?_;rintro e w3 ⟨⟨n,rfl⟩,hw3,hs3⟩;have H3:=yH (And.intro hw3 (And.intro ((HS.out.1.of_below H0.out.2 HB1.out).trans hs3) (hs3.iter_keeps ((HB1.out.block _ (gS.1 HX.out.1).1).trans HX.out.1) HX.out.2.2.2.2.1)));clear hw3 hs3))
        go_roundw
        case rel=>exact⟨pos+d,_,H3.out.2.2,HX.out.2.1,H3.out.1,H3.out.2.1,HRR.out,HX.out.2.2.2.1⟩
        case measure=>
          have e1:=H3.out.2.2;have e2:=HX.out.2.2.2.2.2;have:=HX.out.2.1;have:=HX.out.2.2.1;simp only[World.iterPos,e1,e2];omega
    · have hnx:∀ty,(Instr.next (.pointer (some ⟨w.heap.size,0,none⟩)) true ty).run Tryz.prog wr=_:=fun ty=>Lib.run_next_end_at wr w.heap.size S pos ty hit hp
      rw[rest_end S pos hp,escL,List.append_nil]at hr;subst hr;have HW:=yH (And.intro hw hs);clear hw hs hit hle hbad;go_wp2_with fail
      go_end0
      exact⟨rfl,HW.out.1,HW.out.2⟩
end Go.Proofs.YtcpmjkefbjbhpaaGreatDoor
namespace Go.Proofs.YtcpmjkefbjbhpaaGreatDoor
open Go Go.RowKit GlyphMath LexMath TreeMath
def shapeCells:List Value:=shapesL.flatMap fun s=> [txt s.op,.int .i64 s.k0,.int .i64 s.k1,.int .i64 s.w0,.int .i64 s.w1,.bool s.name,.bool s.pats,.bool s.assigns,.bool s.redirs]
def Shapes (w:World):Prop:=w.rangeAt 2 0 shapeCells
theorem Shapes.below {w w':World} (h:Shapes w) (hb:Below w.heap.size w w'):Shapes w':=fun j v hj=>cell_below (h j v hj) hb
theorem info_shapes:(Tryz.prog.info? 189).map (·.size)=some shapeCells.length:=by kernel_rfl
theorem shape_at (w:World):∀(k:Nat) (s:Sh),shapesL[k]? =some s→(Instr.index 189 (.agg shapeCells.toArray) (.int .i64 (k:Int))).run Tryz.prog w= .ok (shapeV s) w
  |0,s,h=>by obtain rfl:=Option.some.inj h;kernel_rfl
  |1,s,h=>by obtain rfl:=Option.some.inj h;kernel_rfl
  |2,s,h=>by obtain rfl:=Option.some.inj h;kernel_rfl
  |3,s,h=>by obtain rfl:=Option.some.inj h;kernel_rfl
  |4,s,h=>by obtain rfl:=Option.some.inj h;kernel_rfl
  |5,s,h=>by obtain rfl:=Option.some.inj h;kernel_rfl
  |6,s,h=>by obtain rfl:=Option.some.inj h;kernel_rfl
  |7,s,h=>by obtain rfl:=Option.some.inj h;kernel_rfl
  |8,s,h=>by obtain rfl:=Option.some.inj h;kernel_rfl
  |9,s,h=>by obtain rfl:=Option.some.inj h;kernel_rfl
  |10,s,h=>by obtain rfl:=Option.some.inj h;kernel_rfl
  |11,s,h=>by obtain rfl:=Option.some.inj h;kernel_rfl
  |12,s,h=>by obtain rfl:=Option.some.inj h;kernel_rfl
  |13,s,h=>by obtain rfl:=Option.some.inj h;kernel_rfl
  |k+14,s,h=>by simp[shapesL]at h
end Go.Proofs.YtcpmjkefbjbhpaaGreatDoor
namespace Go.Proofs.YtcpmjkefbjbhpaaGreatDoor
open Go Go.RowKit GlyphMath LexMath TreeMath ParseMath
def tokB (s:ByteArray):Except (Nat×Nat) (List Tk):=if 2000<s.size then .error (0,3)else if isText s=false then .error (place s,2)else tokensL s.size ((letters s).length+1) (letters s) []
def TkEnd (w w':World) (e:Ending) (s:ByteArray):Prop:=match tokB s with
  | .ok ts=> ∃G c,e= .returned (.tuple #[.slice (some ⟨G,0,none⟩) ts.length c,.int .i64 (s.size:Int),.int .i64 0])∧ts.length≤c∧ToksAt w' G 0 ts∧GoodS ⟨ts,0,0⟩∧Below w.heap.size w w'
  | .error (n,c)=>(c=2∨c=3)∧e= .returned (.tuple #[zeroV,.int .i64 (n:Int),.int .i64 (c:Int)])∧Below w.heap.size w w'
theorem WordV.cap {w:World} {F:Nat→Prop} {v:Value} {ps:List Pt} (h:WordV w F v ps):CapOk v:=by
  cases h with
  |row v ps vs hown hl hF hs=>
    rcases hown.2 with ⟨rfl,h0⟩|⟨g,cap,cur,rfl, -, -,hle, -⟩
    · exact⟨none,0,0,rfl,Nat.le_refl _⟩
    · exact⟨_,_,_,rfl,hle⟩
theorem results_cell_tmp2 {fn:Func} {p u v:Tmp} {ty:TypeId} (h:fn.results= #[.cell p ty,.tmp u,.tmp v]) (tmps:Array Value) (P:Program) (w:World):
    (results fn tmps).run P w=((asAddr (tmps.getD p undef)).run P w).andThen fun a w₁=>((loadVar ty a).run P w₁).andThen fun x w₂=> .ok (.tuple #[x,tmps.getD u undef,tmps.getD v undef]) w₂:=by
  simp only[results,h];simp[Sem.run_bind,Result.andThen]
theorem prog_info:(Tryz.prog.info? 24).map (·.size)=some 2:=by kernel_rfl
theorem ret_prog {fn:Func} {p u v:Tmp} (hf:fn.results= #[.cell p 24,.tmp u,.tmp v]) {tmps:Array Value} {k:Nat} {cs:Array Value} {x y:Value} {w:World} {t:TypeId} {fr:Nat×Nat} (h:w.heap[k]? =some (.cells cs t fr)) (hc:cs.size=2) (h2:tmps.getD p undef= .pointer (some ⟨k,0,none⟩)) (h3:tmps.getD u undef=x) (h4:tmps.getD v undef=y):
    (results fn tmps).run Tryz.prog w= .ok (.tuple #[.agg cs,x,y]) w:=by
  rw[results_cell_tmp2 hf,h2,h3,h4];have:(loadVar 24 ⟨k,0,none⟩).run Tryz.prog w= .ok (.agg cs) w:=run_loadVar_row (P:=Tryz.prog) w k t 24 _ fr _ h Tryz.underlying24 rfl (by rw[prog_info,hc]);simp[asAddr,Result.andThen,this]
def parseB (s:ByteArray):Except (Nat×Nat) (List Nd):=match tokB s with
  | .ok ts=>parseM ts
  | .error x=> .error x
def PZ:Array Value:= #[.slice none 0 0,.int .i64 0]
def fullN (n:Nd):Bool:=n.words.all (fun x=> !x.isEmpty)&&n.pats.all fun x=> !x.isEmpty&&x.all fun y=> !y.isEmpty
def fullNs (l:List Nd):Bool:=l.all fullN
def PaEnd (w w':World) (e:Ending) (s:ByteArray):Prop:=match parseB s with
  | .ok ns=> ∃v,e= .returned (.tuple #[.agg #[v,.int .i64 0],.int .i64 (s.size:Int),.int .i64 0])∧(∃p c,v= .slice p ns.length c)∧(fullNs ns=true→NsAt w' v ns)∧Below w.heap.size w w'
  | .error (n,c)=>c≠0∧e= .returned (.tuple #[.agg PZ,.int .i64 (n:Int),.int .i64 (c:Int)])∧Below w.heap.size w w'
section
variable {w W : World} {z : Nat} {t : TypeId} (hz : w.heap[z]? = some (.cells PZ t (0, 0))) (hk : ∀ k, k ≠ z → W.heap[k]? = w.heap[k]?) (h1 : W.cell? ⟨z, 1, none⟩ = some (.int .i64 0))
include hz hk h1
theorem spot_turn {p:Option Addr} {k size:Nat} {cs:List Value} (h:SpotAt w p k size cs) (hc:3≤cs.length∨(∃s r,cs= .string s::r)∨∃u,cs= [u]∧u≠ .slice none 0 0):SpotAt W p k size cs:=by
  obtain⟨b,o,hp,hs⟩:=h;refine⟨b,o,hp,fun i u hu=> ?_⟩;have hw:=hs i u hu
  by_cases hb:b=z
  · subst hb
    rcases hc with hc|⟨s,r,rfl⟩|⟨v,rfl,hv⟩
    · have h2:=hs 2 (cs[2]'(by omega)) (List.getElem?_eq_getElem _)
      rw[cell_plain hz]at h2;have:=(gS.1 h2).1;simp only[PZ,List.size_toArray,List.length_cons,List.length_nil]at this;omega
    · have h2:=hs 0 _ rfl
      rw[cell_plain hz]at h2;obtain⟨h3,h4⟩:=gS.1 h2;have h5:o+k*size+0=0∨o+k*size+0=1:=(by simp[PZ]at h3;omega)
      rcases h5 with h5|h5
      · rw[h5]at h2;simp[PZ]at h2
      · rw[h5]at h2;simp[PZ]at h2
    · have hi:i=0:=by have:=(List.getElem?_eq_some_iff.1 hu).1;simpa using this
      subst hi;obtain rfl:v=u:=(by simpa using hu);rw[cell_plain hz]at hw;obtain⟨h3, -⟩:=gS.1 hw;have h5:o+k*size+0=0∨o+k*size+0=1:=(by simp[PZ]at h3;omega)
      rcases h5 with h5|h5
      · rw[h5]at hw;simp[PZ]at hw;exact absurd hw.symm hv
      · rw[h5]at hw ⊢;simp[PZ]at hw;rw[h1,hw]
  · rw[World.cell?_of_block (hk b hb)]
    exact hw
theorem ps_turn {v:Value} {ps:List Pt} (h:PsAt w v ps):PsAt W v ps:=by
  induction h with
  |mk p c ps us e1 e2 e3 _ ih=>exact .mk p c ps us e1 e2 (fun k q u hq hu=>spot_turn hz hk h1 (e3 k q u hq hu) (.inl (by simp[pcells]))) ih
omit hz hk h1 in
theorem ps_ne {v:Value} {ps:List Pt} (h:PsAt w v ps) (hp:ps≠ []):v≠ .slice none 0 0:=by
  obtain⟨p,c,rfl, -⟩:=h.is;intro e;simp only[Value.slice.injEq]at e;exact hp (List.eq_nil_of_length_eq_zero e.2.1)
omit hz hk h1 in
theorem sl_ne {size:Nat} {α:Type} {P:α→List Value→Prop} {v:Value} {l:List α} (h:SlAt w size α P v l) (hp:l≠ []):v≠ .slice none 0 0:=by
  obtain⟨⟨p,c,rfl, -⟩, -⟩:=h;intro e;simp only[Value.slice.injEq]at e;exact hp (List.eq_nil_of_length_eq_zero e.2.1)
theorem ws_turn {v:Value} {l:List (List Pt)} (h:WsAt w v l) (hn:∀x∈l,x≠ []):WsAt W v l:=by
  obtain⟨⟨p,c,hv,hx⟩,hf⟩:=h;refine⟨⟨p,c,hv,fun k x hk'=> ?_⟩,hf⟩;obtain⟨cs,a,u,rfl,b⟩:=hx k x hk';exact⟨[u],spot_turn hz hk h1 a (.inr (.inr ⟨u,rfl,ps_ne b (hn x (List.mem_of_getElem? hk'))⟩)),u,rfl,ps_turn hz hk h1 b⟩
theorem pats_turn {v:Value} {l:List (List (List Pt))} (h:PatsAt w v l) (hn:∀x∈l,x≠ []∧∀y∈x,y≠ []):PatsAt W v l:=by
  obtain⟨⟨p,c,hv,hx⟩,hf⟩:=h;refine⟨⟨p,c,hv,fun k x hk'=> ?_⟩,hf⟩;obtain⟨cs,a,u,rfl,b⟩:=hx k x hk';obtain⟨n1,n2⟩:=hn x (List.mem_of_getElem? hk');exact⟨[u],spot_turn hz hk h1 a (.inr (.inr ⟨u,rfl,sl_ne b n1⟩)),u,rfl,ws_turn hz hk h1 b n2⟩
theorem as_turn {v:Value} {l:List (List UInt8×List Pt)} (h:AsAt w v l):AsAt W v l:=by
  obtain⟨⟨p,c,hv,hx⟩,hf⟩:=h;refine⟨⟨p,c,hv,fun k x hk'=> ?_⟩,hf⟩;obtain⟨cs,a,u,rfl,b⟩:=hx k x hk';exact⟨_,spot_turn hz hk h1 a (.inr (.inl ⟨_,_,rfl⟩)),u,rfl,ps_turn hz hk h1 b⟩
theorem kids_turn {v:Value} {l:List Int} (h:KidsAt w v l):KidsAt W v l:=by
  obtain⟨⟨p,c,hv,hx⟩,hf⟩:=h;refine⟨⟨p,c,hv,fun k x hk'=> ?_⟩,hf⟩;obtain⟨cs,a,rfl⟩:=hx k x hk';exact⟨_,spot_turn hz hk h1 a (.inr (.inr ⟨_,rfl,by simp⟩)),rfl⟩
omit hz hk h1 in
theorem full_is {n:Nd} (h:fullN n=true):(∀x∈n.words,x≠ [])∧∀x∈n.pats,x≠ []∧∀y∈x,y≠ []:=by
  unfold fullN at h;simp only[Bool.and_eq_true,List.all_eq_true,Bool.not_eq_true',List.isEmpty_eq_false_iff]at h;exact⟨h.1,fun x hx=>⟨(h.2 x hx).1,(h.2 x hx).2⟩⟩
theorem ns_turn {v:Value} {l:List Nd} (h:NsAt w v l) (hn:fullNs l=true):NsAt W v l:=by
  obtain⟨⟨p,c,hv,hx⟩,hf⟩:=h;refine⟨⟨p,c,hv,fun k x hk'=> ?_⟩,hf⟩;obtain⟨cs,a,⟨kv,wv,pv,av,rv,rfl,b1,b2,b3,b4,b5⟩⟩:=hx k x hk';obtain⟨f1,f2⟩:=full_is (List.all_eq_true.1 hn x (List.mem_of_getElem? hk'));exact⟨_,spot_turn hz hk h1 a (.inl (by simp)),⟨kv,wv,pv,av,rv,rfl,kids_turn hz hk h1 b1,ws_turn hz hk h1 b2 f1,pats_turn hz hk h1 b3 f2,as_turn hz hk h1 b4,as_turn hz hk h1 b5⟩⟩
end
end Go.Proofs.YtcpmjkefbjbhpaaGreatDoor
