/-
  Proved: contracts of functions, plain facts. Conditions: as each says.
-/
import Derived.Test.YtcpmjkefbjbhpaaGreatDoorLexCore
import Derived.Test.YtcpmjkefbjbhpaaGreatDoorSw05
import Derived.Test.YtcpmjkefbjbhpaaGreatDoorSw07
import Derived.Test.YtcpmjkefbjbhpaaGreatDoorSw37
import Derived.Deep.RegionWith
import Derived.Deep.QuietTactic
import Derived.BigQuiet
import Derived.LoopTactic
namespace Go.Proofs.YtcpmjkefbjbhpaaGreatDoor
open Go Go.RowKit GlyphMath LexMath
set_option maxHeartbeats 4000000 in
theorem decN_bytes (n b0 b1 b2 b3 r d:Nat) (he:Lib.decodeN n b0 b1 b2 b3=(r,d)) (h0:¬(r=65533∧d=1)):eb r=([b0,b1,b2,b3].take d).map UInt8.ofNat:=by
  unfold eb;unfold Lib.decodeN at he
  split at he
  · obtain⟨rfl,rfl⟩:=Prod.mk.inj he
    rw[if_pos (by assumption)];rfl
  · split at he
    · split at he
      · obtain⟨rfl,rfl⟩:=Prod.mk.inj he
        rw[if_neg (by omega),if_pos (by omega),show 192+(b0 % 32*64+b1 % 64)/64=b0 by omega,show 128+(b0 % 32*64+b1 % 64) % 64=b1 by omega];rfl
      · obtain⟨rfl,rfl⟩:=Prod.mk.inj he
        exact absurd ⟨rfl,rfl⟩ h0
    · split at he
      · split at he
        · obtain⟨rfl,rfl⟩:=Prod.mk.inj he
          rw[if_neg (by omega),if_neg (by omega),if_pos (by omega),show 224+(b0 % 16*4096+b1 % 64*64+b2 % 64)/4096=b0 by omega,show 128+(b0 % 16*4096+b1 % 64*64+b2 % 64)/64 % 64=b1 by omega,show 128+(b0 % 16*4096+b1 % 64*64+b2 % 64) % 64=b2 by omega];rfl
        · obtain⟨rfl,rfl⟩:=Prod.mk.inj he
          exact absurd ⟨rfl,rfl⟩ h0
      · split at he
        · split at he
          · obtain⟨rfl,rfl⟩:=Prod.mk.inj he
            rw[if_neg (by omega),if_neg (by omega),if_neg (by omega),show 240+(b0 % 8*262144+b1 % 64*4096+b2 % 64*64+b3 % 64)/262144=b0 by omega,show 128+(b0 % 8*262144+b1 % 64*4096+b2 % 64*64+b3 % 64)/4096 % 64=b1 by omega,show 128+(b0 % 8*262144+b1 % 64*4096+b2 % 64*64+b3 % 64)/64 % 64=b2 by omega,show 128+(b0 % 8*262144+b1 % 64*4096+b2 % 64*64+b3 % 64) % 64=b3 by omega];rfl
          · obtain⟨rfl,rfl⟩:=Prod.mk.inj he
            exact absurd ⟨rfl,rfl⟩ h0
        · obtain⟨rfl,rfl⟩:=Prod.mk.inj he
          exact absurd ⟨rfl,rfl⟩ h0
theorem drop_byte (s:ByteArray) (j:Nat) (h:j<s.size):s.data.toList.drop j=UInt8.ofNat (s.get! j).toNat::s.data.toList.drop (j+1):=by
  have h':j<s.data.toList.length:=(by rw[Array.length_toList];exact h);rw[List.drop_eq_getElem_cons h',UInt8.ofNat_toNat,Array.getElem_toList]
  congr 1
  have h2:j<s.data.size:=h;show s.data[j]=s.data[j]!;rw[getElem!_pos s.data j h2]
theorem take_bytes (s:ByteArray) (i:Nat):∀d,d≤4→i+d≤s.size→s.data.toList.drop i=(([(s.get! i).toNat,(s.get! (i+1)).toNat,(s.get! (i+2)).toNat,(s.get! (i+3)).toNat].take d).map UInt8.ofNat)++s.data.toList.drop (i+d)
  |0,_,_=>by simp
  |1,_,h=>by rw[drop_byte s i (by omega)];rfl
  |2,_,h=>by rw[drop_byte s i (by omega),drop_byte s (i+1) (by omega)];rfl
  |3,_,h=>by rw[drop_byte s i (by omega),drop_byte s (i+1) (by omega),drop_byte s (i+2) (by omega)];rfl
  |4,_,h=>by rw[drop_byte s i (by omega),drop_byte s (i+1) (by omega),drop_byte s (i+2) (by omega),drop_byte s (i+3) (by omega)];rfl
  |_+5,h,_=>by omega
theorem rest_bytes (s:ByteArray):∀n i,s.size-i≤n→i≤s.size→badFrom s i=none→s.data.toList.drop i=enc (rest s i)
  |0,i,hn,hi,_=>by
    rw[rest_end s i (by omega),List.drop_eq_nil_of_le (by rw[Array.length_toList];show s.size≤i;omega)];rfl
  |n+1,i,hn,hi,hb=>by
    by_cases h:i<s.size
    · rw[badFrom_step s i h]at hb
      cases hbd:bad s i with
      |true=>rw[hbd]at hb;simp at hb
      |false=>
        rw[hbd]at hb;have hb':badFrom s (i+(Utf8.decode s i).2)=none:=(by simpa using hb);have g:=decN_bytes (s.size-i) (s.get! i).toNat (s.get! (i+1)).toNat (s.get! (i+2)).toNat (s.get! (i+3)).toNat _ _ (by rw[←Lib.decode_at]) (not_bad hbd);have w1:=width_pos s i h;have w2:=width_le s i h
        have w3:(Utf8.decode s i).2≤4:=by
          rw[Lib.decode_at];exact(decodeN_width _ _ _ _ _ (by omega)).2
        have ih:=rest_bytes s n (i+(Utf8.decode s i).2) (by omega) (by omega) hb';rw[rest_step s i h,enc,g,←ih];exact take_bytes s i _ w3 w2
    · rw[rest_end s i h,List.drop_eq_nil_of_le (by rw[Array.length_toList];show s.size≤i;omega)]
      rfl
theorem pos_begin {s:ByteArray} (h:isText s=true):Pos s 0 (letters s):=by
  have:=rest_bytes s s.size 0 (by omega) (by omega) (text_none h);rw[rest_zero]at this;exact⟨this,Nat.zero_le _,(text_good h).2⟩
theorem tokCells_get:∀(ts:List Tk) (us:List Value) (j:Nat) (t:Tk) (u:Value),ts[j]? =some t→us[j]? =some u→ts.length=us.length→∀i,i<4→(tokCells ts us)[j*4+i]? =(tcells t u)[i]?
  | [],_,_,_,_,h,_,_,_,_=>by simp at h
  |_::_,[],_,_,_,_,h,_,_,_=>by simp at h
  |a::ts,b::us,0,t,u,h1,h2,_,i,hi=>by
    simp only[List.getElem?_cons_zero,Option.some.injEq]at h1 h2;subst h1 h2;rw[tokCells,Nat.zero_mul,Nat.zero_add,List.getElem?_append_left (by simp[tcells];omega)]
  |a::ts,b::us,j+1,t,u,h1,h2,hl,i,hi=>by
    simp only[List.getElem?_cons_succ]at h1 h2;rw[tokCells,show(j+1)*4+i=4+(j*4+i) by omega,List.getElem?_append_right (by simp[tcells])]
    simpa [tcells]using tokCells_get ts us j t u h1 h2 (by simpa using hl) i hi
def TokC (w:World) (p:Option Addr) (k:Nat) (kind:Int) (T:ByteArray) (wv:Value) (a:Nat):Prop:=∃b o,p=some ⟨b,o,none⟩∧
  w.cell? ⟨b,o+k*4,none⟩=some (.int .i64 kind)∧w.cell? ⟨b,o+k*4+1,none⟩=some (.string T)∧w.cell? ⟨b,o+k*4+2,none⟩=some wv∧w.cell? ⟨b,o+k*4+3,none⟩=some (.int .i64 (a:Int))
theorem TokC.below {w w':World} {p:Option Addr} {k:Nat} {kind:Int} {T:ByteArray} {wv:Value} {a:Nat} (h:TokC w p k kind T wv a) (hb:Below w.heap.size w w'):TokC w' p k kind T wv a:=by
  obtain⟨b,o,hp,h0,h1,h2,h3⟩:=h;have lt:∀ {a:Addr} {v:Value},w.cell? a=some v→a.block<w.heap.size:=fun h=>World.block_lt_of_cell? w _ h;exact⟨b,o,hp,by rw[hb.cell (p:=⟨b,_,none⟩) (lt h0)];exact h0,by rw[hb.cell (p:=⟨b,_,none⟩) (lt h1)];exact h1,by rw[hb.cell (p:=⟨b,_,none⟩) (lt h2)];exact h2,by rw[hb.cell (p:=⟨b,_,none⟩) (lt h3)];exact h3⟩
theorem TokO.at {w:World} {B X:Nat} {v:Value} {us:List Value} {F:Nat→Prop} {ts:List Tk} (h:TokO w B X v us F ts):
    ∃p c,v= .slice p ts.length c∧∀k (t:Tk),ts[k]? =some t→∃u,us[k]? =some u∧WordV w F u t.word∧TokC w p k t.kind ⟨t.text.toArray⟩ u t.at_:=by
  have hl:=h.len;have hs:=h.sub
  rcases h.own.2 with ⟨rfl,h0⟩|⟨g,cap,cur,rfl, -⟩
  · exact⟨none,0,by rw[h0],fun k q hq=>by
      have:=(List.getElem?_eq_some_iff.1 hq).1
      omega⟩
  · have hc:=h.own.cellAt
    refine⟨some ⟨g,0,none⟩,cap,rfl,fun k t ht=> ?_⟩;have hk:=(List.getElem?_eq_some_iff.1 ht).1;obtain⟨u,hu⟩:∃u,us[k]? =some u:=⟨_,List.getElem?_eq_getElem (by rw[←hl];exact hk)⟩;refine⟨u,hu,hs k t u ht hu,g,0,rfl,?_⟩;have hx:=fun i (hi:i<4)=>(hc (k*4+i) (by omega)).trans (tokCells_get ts us k t u ht hu hl i hi);refine⟨?_,?_,?_,?_⟩
    · simpa [tcells,txt]using hx 0 (by omega)
    · simpa [Nat.add_assoc,tcells,txt]using hx 1 (by omega)
    · simpa [Nat.add_assoc,tcells,txt]using hx 2 (by omega)
    · simpa [Nat.add_assoc,tcells,txt]using hx 3 (by omega)
end Go.Proofs.YtcpmjkefbjbhpaaGreatDoor
namespace Go.Proofs.YtcpmjkefbjbhpaaGreatDoor
open Go Go.RowKit GlyphMath LexMath TreeMath
def prevO (ps:List Pt) (j:Nat):Option Pt:=match j with
  |0=>none
  |m+1=>ps[m]?
theorem drop_get {α:Type} {l:List α} {j:Nat} {q:α} (h:l[j]? =some q):l.drop j=q::l.drop (j+1):=by
  obtain⟨hj,rfl⟩:=List.getElem?_eq_some_iff.1 h;exact List.drop_eq_getElem_cons hj
theorem below_drew1 (B:Nat) (w:World):Below B w w.drew:=⟨rfl,rfl,rfl,Nat.le_refl _,fun _ _=>rfl⟩
set_option linter.unusedSimpArgs false in
set_option maxHeartbeats 600000 in
set_option maxRecDepth 100000 in
theorem row_next {k d:Nat} (hk:k+d=20) (hR:RowDo k (d+1)):RowDo (k+1) d:=by
  intro ps v w hv hs;obtain⟨p,c,rfl,hlen,hat⟩:=hv.is;have HP:=yH (fun (q:Pt) (u:Value) (W:World) (hu:PsAt W u q.word) (hw:q.text.length≤1048576∧Small q.word)=>tpart_any (show d≤20 by omega) hR q u W hu hw.2 hw.1);have HAT:=yH hat;have HSM:=yH (fun q (hq:q∈ps)=>hs.get hq);obtain⟨f,hf⟩:∃f,partT (rowT k) (decide (0<d))=f:=⟨_,rfl⟩;have hkd:decide (k<20)=decide (0<d):=decide_eq_decide.2 (by omega);obtain⟨R,hRR⟩:∃R,rowT (k+1) ps=R:=⟨_,rfl⟩;have HRR:=yH (show sideT f none ps=R from by rw[←hRR,←hf,rowT,hkd]);rw[hRR];have HP:=yH (show ∀(q:Pt) (u:Value) (W:World),PsAt W u q.word→(q.text.length≤1048576∧Small q.word)→Calls Tryz.prog 122 #[partV q u,.int .i64 (d:Int)] W fun e w'=>e= .returned (.bool (f q))∧Below W.heap.size W w' from by rw[←hf];exact HP.out);have hd20:¬(20:Int)<(d:Int):=(by omega);obtain⟨N,hN⟩:∃N,ps.length=N:=⟨_,rfl⟩;have HN:=yH hN;have hN0:(N:Int)≤2^63-1:=(by unfold maxLen at hlen;omega);rw[hN];clear hf hkd hRR hv hs hlen hat hk hR hN;go_enter Tryz.func81,Tryz.ntmps81;go_wp2_with fail
  go_loopw [11] (fun i wr=> ∃j,j≤N∧i= .int .i64 (j:Int)∧Below w.heap.size w wr∧sideT f (prevO ps j) (ps.drop j)=R) (fun i _=>N-(intOf i).toNat)
  case atStart=>exact⟨0,by omega,rfl,Below.refl _ _,HRR.out⟩
  case round=>
    obtain⟨j,hj,rfl,hb,hsd⟩:=hrel
    by_cases hlt:j<N
    · obtain⟨q,hq⟩:∃x,ps[j]? =some x:=⟨_,List.getElem?_eq_getElem (by rw[HN.out];exact hlt)⟩
      obtain⟨u,hsp,hu⟩:=HAT.out j q hq;have hsp:=hsp.below hb;have hu:=hu.stays hb;obtain⟨b,o,rfl,hc⟩:=hsp;have c0:=hc 0 _ rfl;have c1:=hc 1 _ rfl;have c2:=hc 2 _ rfl;have c3:=hc 3 _ rfl;have c4:=hc 4 _ rfl;rw[drop_get hq,sideT]at hsd;have HSD:=yH hsd;have HB:=yH hb;have hj0:(j:Int)<(N:Int):=(by omega);have HU:=yH hu;obtain⟨up,uc,rfl, -, -⟩:=hu.is;obtain⟨ul,hul⟩:∃ul,q.word.length=ul:=⟨_,rfl⟩;rw[hul]at c3 HU;have HJ:=yH hlt;have HQ:=yH hq;clear hc hsd hb hlt hj hul hq;unfold txt at c1 c2;rw[Nat.add_zero]at c0;obtain⟨P,hP⟩:∃P,f q=P:=⟨_,rfl⟩;obtain⟨kd,tx,op,wd,qq⟩:=q;simp only at c0 c1 c2 c3 c4;obtain⟨s,hs⟩:∃s,T tx=s:=⟨_,rfl⟩;obtain⟨s2,hs2⟩:∃s,T op=s:=⟨_,rfl⟩;replace c1:wr.cell? ⟨b,o+j*5+1,none⟩=some (.string s):=(by rw[←hs];exact c1);replace c2:wr.cell? ⟨b,o+j*5+2,none⟩=some (.string s2):=(by rw[←hs2];exact c2);obtain⟨w1,hw1⟩:∃w1,wr.alloc (.cells #[.int .i64 kd,.string s,.string s2,.slice up ul uc,.bool qq] 55)=w1:=⟨_,rfl⟩;have hb1:Below wr.heap.size wr w1:=(by rw[←hw1];exact below_one _ _);have hpc:PC w1 wr.heap.size kd s s2 (.slice up ul uc) qq:=(by rw[←hw1];exact PC.new _ _ _ _ _ _ _)
      have HPQ:=yH (show Calls Tryz.prog 122 #[.agg #[.int .i64 kd,.string s,.string s2,.slice up ul uc,.bool qq],.int .i64 (d:Int)] w1.drew fun e w'=>e= .returned (.bool P)∧Below w1.heap.size w1 w' from by
        rw[←hP,←hs,←hs2];refine(HP.out ⟨kd,tx,op,wd,qq⟩ (.slice up ul uc) w1.drew (HU.out.stays (hb1.trans ((below_drew1 _ _).mono hb1.size))) (HSM.out _ (List.mem_of_getElem? HQ.out))).mono ?_;rintro e w' ⟨rfl,hb⟩
        exact⟨rfl,(below_drew1 _ _).trans hb⟩)
      have HW1:=yH (And.intro hw1 (And.intro hb1 hpc));rw[hP]at HSD;have HSS:=yH (And.intro hs hs2);clear hw1 hb1 hpc hP hs hs2
      cases P
      · have HRf:=yH (show false=R from HSD.out)
        go_wp2_with fail;rw[HW1.out.1];obtain⟨d0,d1,d2,d3,d4⟩:=HW1.out.2.2;refine wp_region_held_drew (S:=(fun W=>W.cell? ⟨wr.heap.size,0,none⟩=some (.int .i64 kd)∧W.cell? ⟨wr.heap.size,1,none⟩=some (.string s)∧W.cell? ⟨wr.heap.size,2,none⟩=some (.string s2)∧W.cell? ⟨wr.heap.size,3,none⟩=some (.slice up ul uc)∧W.cell? ⟨wr.heap.size,4,none⟩=some (.bool qq))) (by kernel_rfl) ?_ (fun hHeld=> ?_)
        · exact HW1.out.2.2
        refine tkW 0 16 rfl rfl ?_ ?_ ?_;rotate_left
        · intro _ _;go_simp<;>(with_reducible rfl)
        simp only[pS];refine tkW 1 17 rfl rfl ?_ ?_ ?_;rotate_left
        · intro _ _;go_simp<;>(with_reducible rfl)
        simp only[pS];refine cW 2 rfl (fun K hK=> ?_);go_simp
        go_wp2_with ((go_at_call 122;refine HPQ.out.mono ?_;rintro e w2 ⟨rfl,hb⟩;have HB2:=yH hb;have HPC:=yH (HW1.out.2.2.below hb);clear hb))
        refine hK.out _ _ ?_ (fun hHeld=> ?_)
        · exact HPC.out
        clear hK K;refine tkW 3 19 rfl rfl ?_ ?_ ?_;rotate_left
        · intro _ _;go_simp<;>(with_reducible rfl)
        simp only[pS];refine tkW 4 20 rfl rfl ?_ ?_ ?_;rotate_left
        · intro _ _;go_simp<;>(with_reducible rfl)
        simp only[pS];refine takeN (i:=5) (k:=21) rfl (by kernel_rfl) (by kernel_rfl) (by kernel_rfl) (by kernel_rfl) (fun _ _ _ h=>h) (by rfl) (by assumption) ?_;simp only[pS];refine takeN (i:=6) (k:=22) rfl (by kernel_rfl) (by kernel_rfl) (by kernel_rfl) (by kernel_rfl) (fun _ _ _ h=>h) (by rfl) (by assumption) ?_;simp only[pS];refine takeN (i:=7) (k:=23) rfl (by kernel_rfl) (by kernel_rfl) (by kernel_rfl) (by kernel_rfl) (fun _ _ _ h=>h) (by rfl) (by assumption) ?_;simp only[pS];refine takeN (i:=8) (k:=24) rfl (by kernel_rfl) (by kernel_rfl) (by kernel_rfl) (by kernel_rfl) (fun _ _ _ h=>h) (by rfl) (by assumption) ?_;simp only[pS];refine takeN (i:=9) (k:=25) rfl (by kernel_rfl) (by kernel_rfl) (by kernel_rfl) (by kernel_rfl) (fun _ _ _ h=>h) (by rfl) (by assumption) ?_;simp only[pS];refine takeN (i:=10) (k:=26) rfl (by kernel_rfl) (by kernel_rfl) (by kernel_rfl) (by kernel_rfl) (fun _ _ _ h=>h) (by rfl) (by assumption) ?_;simp only[pS];refine takeN (i:=11) (k:=27) rfl (by kernel_rfl) (by kernel_rfl) (by kernel_rfl) (by kernel_rfl) (fun _ _ _ h=>h) (by rfl) (by assumption) ?_;simp only[pS];refine takeN (i:=12) (k:=28) rfl (by kernel_rfl) (by kernel_rfl) (by kernel_rfl) (by kernel_rfl) (fun _ _ _ h=>h) (by rfl) (by assumption) ?_;simp only[pS];refine takeN (i:=13) (k:=29) rfl (by kernel_rfl) (by kernel_rfl) (by kernel_rfl) (by kernel_rfl) (fun _ _ _ h=>h) (by rfl) (by assumption) ?_;simp only[pS];refine takeN (i:=14) (k:=30) rfl (by kernel_rfl) (by kernel_rfl) (by kernel_rfl) (by kernel_rfl) (fun _ _ _ h=>h) (by rfl) (by assumption) ?_;simp only[pS];refine takeN (i:=15) (k:=31) rfl (by kernel_rfl) (by kernel_rfl) (by kernel_rfl) (by kernel_rfl) (fun _ _ _ h=>h) (by rfl) (by assumption) ?_;simp only[pS];refine tkW 16 32 rfl rfl ?_ ?_ ?_;rotate_left
        · intro _ _;go_simp<;>(with_reducible rfl)
        simp only[pS];refine wpAnyH_done (by kernel_rfl) ?_ _;go_wp2_with fail;go_ret;exact⟨ret_bool HRf.out,HB.out.trans ((HW1.out.2.1.trans (HB2.out.mono HW1.out.2.1.size)).mono HB.out.size)⟩
      · rcases Nat.eq_zero_or_pos j with hj|hj
        · have HNX:=yH (show sideT f (some ⟨kd,tx,op,wd,qq⟩) (ps.drop (j+1))=R from by have:=HSD.out;rw[show prevO ps j=none from by rw[hj];rfl]at this;exact this)
          have hjz:decide (0<j)=false:=decide_eq_false (by omega);clear hj;go_wp2_with fail;rw[HW1.out.1];obtain⟨d0,d1,d2,d3,d4⟩:=HW1.out.2.2;refine wp_region_held_drew (S:=(fun W=>W.cell? ⟨wr.heap.size,0,none⟩=some (.int .i64 kd)∧W.cell? ⟨wr.heap.size,1,none⟩=some (.string s)∧W.cell? ⟨wr.heap.size,2,none⟩=some (.string s2)∧W.cell? ⟨wr.heap.size,3,none⟩=some (.slice up ul uc)∧W.cell? ⟨wr.heap.size,4,none⟩=some (.bool qq))) (by kernel_rfl) ?_ (fun hHeld=> ?_)
          · exact HW1.out.2.2
          refine tkW 0 16 rfl rfl ?_ ?_ ?_;rotate_left
          · intro _ _;go_simp<;>(with_reducible rfl)
          simp only[pS];refine tkW 1 17 rfl rfl ?_ ?_ ?_;rotate_left
          · intro _ _;go_simp<;>(with_reducible rfl)
          simp only[pS];refine cW 2 rfl (fun K hK=> ?_);go_simp
          go_wp2_with ((go_at_call 122;refine HPQ.out.mono ?_;rintro e w2 ⟨rfl,hb⟩;have HB2:=yH hb;have HPC:=yH (HW1.out.2.2.below hb);clear hb))
          refine hK.out _ _ ?_ (fun hHeld=> ?_)
          · exact HPC.out
          clear hK K;refine tkW 3 19 rfl rfl ?_ ?_ ?_;rotate_left
          · intro _ _;go_simp<;>(with_reducible rfl)
          simp only[pS];refine tkW 4 20 rfl rfl ?_ ?_ ?_;rotate_left
          · intro _ _;go_simp<;>(with_reducible rfl)
          simp only[pS];refine tkW 5 21 rfl rfl ?_ ?_ ?_;rotate_left
          · intro _ _;go_simp<;>(with_reducible rfl)
          simp only[pS];refine tkW 6 22 rfl rfl ?_ ?_ ?_;rotate_left
          · intro _ _;go_simp<;>(with_reducible rfl)
          simp only[pS];refine tkW 7 23 rfl rfl ?_ ?_ ?_;rotate_left
          · intro _ _;go_simp<;>(with_reducible rfl)
          simp only[pS];refine takeN (i:=8) (k:=24) rfl (by kernel_rfl) (by kernel_rfl) (by kernel_rfl) (by kernel_rfl) (fun _ _ _ h=>h) (by rfl) (by assumption) ?_;simp only[pS];refine takeN (i:=9) (k:=25) rfl (by kernel_rfl) (by kernel_rfl) (by kernel_rfl) (by kernel_rfl) (fun _ _ _ h=>h) (by rfl) (by assumption) ?_;simp only[pS];refine takeN (i:=10) (k:=26) rfl (by kernel_rfl) (by kernel_rfl) (by kernel_rfl) (by kernel_rfl) (fun _ _ _ h=>h) (by rfl) (by assumption) ?_;simp only[pS];refine takeN (i:=11) (k:=27) rfl (by kernel_rfl) (by kernel_rfl) (by kernel_rfl) (by kernel_rfl) (fun _ _ _ h=>h) (by rfl) (by assumption) ?_;simp only[pS];refine takeN (i:=12) (k:=28) rfl (by kernel_rfl) (by kernel_rfl) (by kernel_rfl) (by kernel_rfl) (fun _ _ _ h=>h) (by rfl) (by assumption) ?_;simp only[pS];refine takeN (i:=13) (k:=29) rfl (by kernel_rfl) (by kernel_rfl) (by kernel_rfl) (by kernel_rfl) (fun _ _ _ h=>h) (by rfl) (by assumption) ?_;simp only[pS];refine takeN (i:=14) (k:=30) rfl (by kernel_rfl) (by kernel_rfl) (by kernel_rfl) (by kernel_rfl) (fun _ _ _ h=>h) (by rfl) (by assumption) ?_;simp only[pS];refine tkW 15 31 rfl rfl ?_ ?_ ?_;rotate_left
          · intro _ _;go_simp<;>(with_reducible rfl)
          simp only[pS];refine tkW 16 32 rfl rfl ?_ ?_ ?_;rotate_left
          · intro _ _;go_simp<;>(with_reducible rfl)
          simp only[pS];refine wpAnyH_done (by kernel_rfl) ?_ _;go_wp2_with fail;exact⟨⟨j+1,by have:=HJ.out;omega,by go_num,HB.out.trans ((HW1.out.2.1.trans (HB2.out.mono HW1.out.2.1.size)).mono HB.out.size),by show sideT f (ps[j]?) _=R;rw[HQ.out];exact HNX.out⟩,by have:=HJ.out;simp[intOf];omega⟩
        · obtain⟨m,hm⟩:∃m,j=m+1:=⟨j-1,by omega⟩
          obtain⟨x,hx⟩:∃x,ps[m]? =some x:=⟨_,List.getElem?_eq_getElem (by have:=HN.out;have:=HJ.out;omega)⟩;obtain⟨v,hsp,hv⟩:=HAT.out m x hx;have hsp:=hsp.below HB.out;obtain⟨xp,xc,rfl, -, -⟩:=hv.is;obtain⟨b',o',hbo,hc⟩:=hsp
          obtain⟨rfl,rfl⟩:b=b'∧o=o':=by
            simp only[Option.some.injEq,Addr.mk.injEq,and_true]at hbo;exact hbo
          obtain⟨kx,tx',ox,wx,qx⟩:=x;obtain⟨xl,hxl⟩:∃xl,wx.length=xl:=⟨_,rfl⟩;obtain⟨sx,hsx⟩:∃s,T tx'=s:=⟨_,rfl⟩;obtain⟨sx2,hsx2⟩:∃s,T ox=s:=⟨_,rfl⟩;have e0:wr.cell? ⟨b,o+m*5,none⟩=some (.int .i64 kx):=hc 0 _ rfl;have e1:wr.cell? ⟨b,o+m*5+1,none⟩=some (.string sx):=(by rw[←hsx];exact hc 1 _ rfl);have e2:wr.cell? ⟨b,o+m*5+2,none⟩=some (.string sx2):=(by rw[←hsx2];exact hc 2 _ rfl);have e3:wr.cell? ⟨b,o+m*5+3,none⟩=some (.slice xp xl xc):=(by rw[←hxl];exact hc 3 _ rfl);have e4:wr.cell? ⟨b,o+m*5+4,none⟩=some (.bool qx):=hc 4 _ rfl
          have HXD:=yH (show ∀W W':World,(W.cell? ⟨b,o+m*5,none⟩=some (.int .i64 kx)∧W.cell? ⟨b,o+m*5+1,none⟩=some (.string sx)∧W.cell? ⟨b,o+m*5+2,none⟩=some (.string sx2)∧W.cell? ⟨b,o+m*5+3,none⟩=some (.slice xp xl xc)∧W.cell? ⟨b,o+m*5+4,none⟩=some (.bool qx))→Below W.heap.size W W'→
              W'.cell? ⟨b,o+m*5,none⟩=some (.int .i64 kx)∧W'.cell? ⟨b,o+m*5+1,none⟩=some (.string sx)∧W'.cell? ⟨b,o+m*5+2,none⟩=some (.string sx2)∧W'.cell? ⟨b,o+m*5+3,none⟩=some (.slice xp xl xc)∧W'.cell? ⟨b,o+m*5+4,none⟩=some (.bool qx)from fun W W' ⟨h0,h1,h2,h3,h4⟩ hb=>
            have lt:∀ {a:Addr} {v:Value},W.cell? a=some v→a.block<W.heap.size:=fun h=>World.block_lt_of_cell? W _ h
            ⟨(hb.cell (lt h0)).trans h0,(hb.cell (lt h1)).trans h1,(hb.cell (lt h2)).trans h2,(hb.cell (lt h3)).trans h3,(hb.cell (lt h4)).trans h4⟩)
          have hx1:=HXD.out wr w1 ⟨e0,e1,e2,e3,e4⟩ HW1.out.2.1;have HXC:=yH (fun w2 hb=>HXD.out w1 w2 hx1 hb);obtain⟨O,hO⟩:∃O,oneT ⟨kx,tx',ox,wx,qx⟩ ⟨kd,tx,op,wd,qq⟩=O:=⟨_,rfl⟩
          have HO:=yH (show ∀W,Calls Tryz.prog 123 #[.agg #[.int .i64 kx,.string sx,.string sx2,.slice xp xl xc,.bool qx],.agg #[.int .i64 kd,.string s,.string s2,.slice up ul uc,.bool qq]] W fun e w'=>e= .returned (.bool O)∧Below W.heap.size W w' from fun W=>by
            rw[←hO,←hsx,←hsx2,←HSS.out.1,←HSS.out.2]
            exact isOne_any ⟨kx,tx',ox,wx,qx⟩ ⟨kd,tx,op,wd,qq⟩ (.slice xp xl xc) (.slice up ul uc) W)
          have HSO:=yH (show(!O&&sideT f (some ⟨kd,tx,op,wd,qq⟩) (ps.drop (j+1)))=R from by
            have:=HSD.out;rw[hm]at this ⊢;rw[show prevO ps (m+1)=ps[m]? from rfl,hx]at this;rw[←hO]
            exact this)
          have hji:decide (0<j)=true:=decide_eq_true (by omega)
          have hwr:IntKind.i64.wrap ((j:Int)-1)=(m:Int):=by
            have e:(m:Int)=(j:Int)-1:=(by omega);rw[e];exact IntWalk.i64_in _ ⟨by omega,by omega⟩
          have hm0:(0:Int)≤(m:Int):=(by omega);have hmn:(m:Int)<(N:Int):=(by omega);clear e0 e1 e2 e3 e4 hc hbo hx hv hsx hsx2 hO hm hj hxl;obtain⟨e0,e1,e2,e3,e4⟩:=hx1;go_wp2_with fail;rw[HW1.out.1];obtain⟨d0,d1,d2,d3,d4⟩:=HW1.out.2.2;refine wp_region_held_drew (S:=(fun W=>(W.cell? ⟨wr.heap.size,0,none⟩=some (.int .i64 kd)∧W.cell? ⟨wr.heap.size,1,none⟩=some (.string s)∧W.cell? ⟨wr.heap.size,2,none⟩=some (.string s2)∧W.cell? ⟨wr.heap.size,3,none⟩=some (.slice up ul uc)∧W.cell? ⟨wr.heap.size,4,none⟩=some (.bool qq))∧W.cell? ⟨b,o+m*5,none⟩=some (.int .i64 kx)∧W.cell? ⟨b,o+m*5+1,none⟩=some (.string sx)∧W.cell? ⟨b,o+m*5+2,none⟩=some (.string sx2)∧W.cell? ⟨b,o+m*5+3,none⟩=some (.slice xp xl xc)∧W.cell? ⟨b,o+m*5+4,none⟩=some (.bool qx))) (by kernel_rfl) ?_ (fun hHeld=> ?_)
          · exact⟨HW1.out.2.2,e0,e1,e2,e3,e4⟩
          refine tkW 0 16 rfl rfl ?_ ?_ ?_;rotate_left
          · intro _ _;go_simp<;>(with_reducible rfl)
          simp only[pS];refine tkW 1 17 rfl rfl ?_ ?_ ?_;rotate_left
          · intro _ _;go_simp<;>(with_reducible rfl)
          simp only[pS];refine cW 2 rfl (fun K hK=> ?_);go_simp
          go_wp2_with ((go_at_call 122;refine HPQ.out.mono ?_;rintro e w2 ⟨rfl,hb⟩;have HB2:=yH hb;have HPC:=yH (And.intro (HW1.out.2.2.below hb) (HXC.out w2 hb));clear hb))
          refine hK.out _ _ ?_ (fun hHeld=> ?_)
          · exact HPC.out
          clear hK K;refine tkW 3 19 rfl rfl ?_ ?_ ?_;rotate_left
          · intro _ _;go_simp<;>(with_reducible rfl)
          simp only[pS];refine tkW 4 20 rfl rfl ?_ ?_ ?_;rotate_left
          · intro _ _;go_simp<;>(with_reducible rfl)
          simp only[pS];refine tkW 5 21 rfl rfl ?_ ?_ ?_;rotate_left
          · intro _ _;go_simp<;>(with_reducible rfl)
          simp only[pS];refine tkW 6 22 rfl rfl ?_ ?_ ?_;rotate_left
          · intro _ _;go_simp<;>(with_reducible rfl)
          simp only[pS];refine tkW 7 23 rfl rfl ?_ ?_ ?_;rotate_left
          · intro _ _;go_simp<;>(with_reducible rfl)
          simp only[pS];refine tkW 8 24 rfl rfl ?_ ?_ ?_;rotate_left
          · intro _ _;go_simp<;>(with_reducible rfl)
          simp only[pS];refine tkW 9 25 rfl rfl ?_ ?_ ?_;rotate_left
          · intro _ _;go_simp<;>(with_reducible rfl)
          simp only[pS];refine tkW 10 26 rfl rfl ?_ ?_ ?_;rotate_left
          · intro _ _;go_simp<;>(with_reducible rfl)
          simp only[pS];refine tkW 11 27 rfl rfl ?_ ?_ ?_;rotate_left
          · intro _ _;go_simp<;>(with_reducible rfl)
          simp only[pS];refine tkW 12 28 rfl rfl ?_ ?_ ?_;rotate_left
          · intro _ _;go_simp<;>(with_reducible rfl)
          simp only[pS];refine tkW 13 29 rfl rfl ?_ ?_ ?_;rotate_left
          · intro _ _;go_simp<;>(with_reducible rfl)
          simp only[pS];refine cW 14 rfl (fun K hK=> ?_);go_simp
          go_wp2_with ((go_at_call 123;refine(HO.out _).mono ?_;rintro e w3 ⟨rfl,hb⟩;have HB3:=yH (HB2.out.trans (hb.mono HB2.out.size));have HPC3:=yH (And.intro (PC.below HPC.out.1 hb) (HXD.out w2 w3 HPC.out.2 hb));clear hb))
          refine hK.out _ _ ?_ (fun hHeld=> ?_)
          · exact HPC3.out
          clear hK K;refine tkW 15 31 rfl rfl ?_ ?_ ?_;rotate_left
          · intro _ _;go_simp<;>(with_reducible rfl)
          simp only[pS];refine tkW 16 32 rfl rfl ?_ ?_ ?_;rotate_left
          · intro _ _;go_simp<;>(with_reducible rfl)
          simp only[pS];refine wpAnyH_done (by kernel_rfl) ?_ _
          cases O
          · have HNX:=yH (show sideT f (some ⟨kd,tx,op,wd,qq⟩) (ps.drop (j+1))=R from HSO.out)
            go_wp2_with fail;exact⟨⟨j+1,by have:=HJ.out;omega,by go_num,HB.out.trans ((HW1.out.2.1.trans (HB3.out.mono HW1.out.2.1.size)).mono HB.out.size),by show sideT f (ps[j]?) _=R;rw[HQ.out];exact HNX.out⟩,by have:=HJ.out;simp[intOf];omega⟩
          · go_wp2_with fail
            go_ret;exact⟨ret_bool HSO.out,HB.out.trans ((HW1.out.2.1.trans (HB3.out.mono HW1.out.2.1.size)).mono HB.out.size)⟩
    · obtain rfl:j=N:=by omega
      have hj0:¬(j:Int)<(j:Int):=(by omega);rw[List.drop_of_length_le (by rw[HN.out];exact Nat.le_refl _)]at hsd;have HE:=yH (show true=R from by rw[←hsd];cases prevO ps j<;>rfl);have HB:=yH hb;clear hsd hb hlt hj;go_wp2_with fail;go_ret;exact⟨ret_bool HE.out,HB.out⟩
theorem row_any:∀(k d:Nat),k+d=21→RowDo k d
  |0,d,h=>by
    intro ps v w hv _;obtain⟨p,c,rfl, -, -⟩:=hv.is;obtain rfl:d=21:=(by omega);rw[show rowT 0 ps=false from rfl];clear hv h;go_enter Tryz.func81,Tryz.ntmps81;go_wp2_with fail;go_ret;exact⟨rfl,Below.refl _ _⟩
  |k+1,d,h=>row_next (by omega) (row_any k (d+1) (by omega))
theorem word_cell (w:World) (v:Value) (t:TypeId):(w.alloc (.cells #[v] t)).cell? ⟨w.heap.size,0,none⟩=some v:=cell_plain (heap_alloc_new w _) 0
theorem cell_below {w w1:World} {a:Addr} {v:Value} (h:w.cell? a=some v) (hb:Below w.heap.size w w1):w1.cell? a=some v:=(hb.cell (World.block_lt_of_cell? w _ h)).trans h
set_option maxRecDepth 100000 in
theorem word_any (ps:List Pt) (v:Value) (w:World) (hv:PsAt w v ps) (hs:Small ps):
    Calls Tryz.prog 37 #[wordV v] w fun e w'=>e= .returned (.bool (wordT ps))∧Below w.heap.size w w':=by
  obtain⟨p,c,rfl, -, -⟩:=hv.is;have HR:=yH (fun W (hb:Below w.heap.size w W)=>row_any 21 0 rfl ps _ W (hv.stays hb) hs);have HB:=yH (fun o=>below_one w o);have HW:=yH (show wordT ps=(!ps.isEmpty&&rowT 21 ps)from rfl);have hE:=empty_len ps
  have hpos:decide ((0:Int)<(ps.length:Int))= !ps.isEmpty:=by
    cases ps with
    |nil=>rfl
    |cons a r=>exact decide_eq_true (by rw[List.length_cons];omega)
  obtain⟨R,hR⟩:∃R,wordT ps=R:=⟨_,rfl⟩;rw[hR]at HW ⊢;obtain⟨B,hB⟩:∃B,rowT 21 ps=B:=⟨_,rfl⟩;rw[hB]at HW HR;obtain⟨E,hEE⟩:∃E,ps.isEmpty=E:=⟨_,rfl⟩;rw[hEE]at hpos HW;obtain⟨L,hL⟩:∃L,ps.length=L:=⟨_,rfl⟩;rw[hL]at hpos HR ⊢;unfold wordV;have HR2:=yH (show ∀o,Calls Tryz.prog 81 #[.slice p L c,.int .i64 0] (w.alloc o) fun e w'=>e= .returned (.bool B)∧Below (w.alloc o).heap.size (w.alloc o) w' from fun o=>HR.out _ (HB.out o));clear hR hB hEE hE hL hv hs HR
  cases E with
  |true=>
    have hn:¬(0:Int)<(L:Int):=of_decide_eq_false hpos;clear hpos;go_enter Tryz.func37,Tryz.ntmps37;go_wp2_with fail;go_ret;exact⟨ret_bool HW.out.symm,HB.out _⟩
  |false=>
    have hn:(0:Int)<(L:Int):=of_decide_eq_true hpos;clear hpos;go_enter Tryz.func37,Tryz.ntmps37
    go_wp2_with (go_at_call 81;refine(HR2.out _).mono ?_;rintro e w1 ⟨rfl,hb⟩;have HB1:=yH ((HB.out _).trans (hb.mono (HB.out _).size));clear hb)
    go_ret;exact⟨ret_bool HW.out.symm,HB1.out⟩
theorem first_cells {w:World} {v:Value} {q:Pt} {r:List Pt} (hv:PsAt w v (q::r)):∃b o c u,v= .slice (some ⟨b,o,none⟩) (r.length+1) c∧(∃up uc,u= .slice up q.word.length uc)∧
    w.cell? ⟨b,o,none⟩=some (.int .i64 q.kind)∧w.cell? ⟨b,o+1,none⟩=some (.string (T q.text))∧w.cell? ⟨b,o+2,none⟩=some (.string (T q.op))∧w.cell? ⟨b,o+3,none⟩=some u∧w.cell? ⟨b,o+4,none⟩=some (.bool q.q):=by
  obtain⟨p,c,rfl, -,hat⟩:=hv.is;obtain⟨u,⟨b,o,rfl,hc⟩,hu⟩:=hat 0 q rfl;obtain⟨up,uc,hup, -⟩:=hu.is;refine⟨b,o,c,u,rfl,⟨up,uc,hup⟩,?_,?_,?_,?_,?_⟩
  · simpa using hc 0 _ rfl
  · have:=hc 1 _ rfl;rwa [show o+0*5+1=o+1 by omega]at this
  · have:=hc 2 _ rfl;rwa [show o+0*5+2=o+2 by omega]at this
  · have:=hc 3 _ rfl;rwa [show o+0*5+3=o+3 by omega]at this
  · have:=hc 4 _ rfl;rwa [show o+0*5+4=o+4 by omega]at this
set_option maxRecDepth 100000 in
theorem opening_any (ps:List Pt) (v:Value) (w:World) (hv:PsAt w v ps):
    Calls Tryz.prog 186 #[wordV v] w fun e w'=>e= .returned (.string (T (openT ps)))∧Below w.heap.size w w':=by
  have HB:=yH (fun o=>below_one w o);unfold wordV
  cases ps with
  |nil=>
    obtain⟨p,c,rfl, -, -⟩:=hv.is;clear hv;go_enter Tryz.func186,Tryz.ntmps186;go_wp2_with fail;go_ret;exact⟨rfl,HB.out _⟩
  |cons q r=>
    obtain⟨b,o,c,u,rfl,⟨up,uc,rfl⟩,c0,c1,c2,c3,c4⟩:=first_cells hv;have HI:=yH (fun W=>isBare_any q (.slice up q.word.length uc) W);obtain⟨s,hs⟩:∃s,T q.text=s:=⟨_,rfl⟩;obtain⟨s2,hs2⟩:∃s,T q.op=s:=⟨_,rfl⟩;obtain⟨kd,hkd⟩:∃s,q.kind=s:=⟨_,rfl⟩;obtain⟨qq,hqq⟩:∃s,q.q=s:=⟨_,rfl⟩;obtain⟨ul,hul⟩:∃s,q.word.length=s:=⟨_,rfl⟩;have HI:=yH (show ∀W,Calls Tryz.prog 206 #[.agg #[.int .i64 kd,.string s,.string s2,.slice up ul uc,.bool qq]] W fun e w'=>e= .returned (.bool (bareT q))∧Below W.heap.size W w' from fun W=>by rw[←hs,←hs2,←hkd,←hqq,←hul];exact HI.out W);rw[hs]at c1;rw[hs2]at c2;rw[hkd]at c0;rw[hqq]at c4;rw[hul]at c3;obtain⟨B,hBB⟩:∃B,bareT q=B:=⟨_,rfl⟩;rw[hBB]at HI
    have HT:=yH (show T (openT (q::r))=if B=true then s else⟨#[]⟩from by
      rw[←hBB,←hs];show T (if bareT q=true then q.text else [])=_
      cases bareT q<;>rfl)
    rw[HT.out];have hL:((r.length+1:Nat):Int)≠0:=(by omega);obtain⟨L,hLL⟩:∃L,r.length+1=L:=⟨_,rfl⟩;rw[hLL]at hL ⊢;have hL1:=int_ne hL;have hL2:(0:Int)<(L:Int):=(by omega);have d0:=fun x=>cell_below c0 (HB.out x);have d1:=fun x=>cell_below c1 (HB.out x);have d2:=fun x=>cell_below c2 (HB.out x);have d3:=fun x=>cell_below c3 (HB.out x);have d4:=fun x=>cell_below c4 (HB.out x);clear hv hs hs2 hkd hqq hul hBB hL hLL
    cases B with
    |true=>
      go_enter Tryz.func186,Tryz.ntmps186
      go_wp2_with (go_at_call 206;refine(HI.out _).mono ?_;rintro e w1 ⟨rfl,hb⟩;have hx:=(hb.cell (World.block_lt_of_cell? _ _ (word_cell w (.slice (some ⟨b,o,none⟩) L c) 45))).trans (word_cell w (.slice (some ⟨b,o,none⟩) L c) 45);have HB1:=yH ((HB.out _).trans (hb.mono (HB.out _).size));have hx1:=cell_below c1 HB1.out;clear hb)
      go_ret;exact⟨rfl,HB1.out⟩
    |false=>
      go_enter Tryz.func186,Tryz.ntmps186
      go_wp2_with (go_at_call 206;refine(HI.out _).mono ?_;rintro e w1 ⟨rfl,hb⟩;have HB1:=yH ((HB.out _).trans (hb.mono (HB.out _).size));clear hb)
      go_ret;exact⟨rfl,HB1.out⟩
end Go.Proofs.YtcpmjkefbjbhpaaGreatDoor
