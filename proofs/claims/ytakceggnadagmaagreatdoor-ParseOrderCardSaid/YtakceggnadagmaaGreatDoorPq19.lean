/-
  Proved: contracts of functions, plain facts. Conditions: as each says.
-/
import Derived.Test.YtakceggnadagmaaGreatDoorPq17
import Derived.Test.YtakceggnadagmaaGreatDoorTreeRParts
import Derived.Deep.RegionHeld
import Derived.Test.YtakceggnadagmaaGreatDoorPq03
namespace Go.Proofs.YtakceggnadagmaaGreatDoor
open Go Go.RowKit GlyphMath LexMath TreeMath ShowMath
abbrev BigL:Nat:=1152921504606846976
def RowDo (k:Nat):Prop:=∀(ps:List Pt) (v:Value) (w:World),PsAt w v ps→depS k ps=true→(rowS k ps).length≤BigL→
  Calls Tryz.prog 94 #[v] w fun e w'=>e= .returned (.string (T (rowS k ps)))∧Below w.heap.size w w'
theorem eq_text (l:List UInt8) (m:List UInt8):((T l).toList==m)=(l==m):=by rw[Lib.toList_data]
set_option maxHeartbeats 4000000 in
set_option maxRecDepth 100000 in
theorem rpart_in {k:Nat} (hR:RowDo k) (p:Pt) (u:Value) (w:World) (hu:PsAt w u p.word) (hd:depS k p.word=true) (hL:(partS (rowS k) p).length≤BigL):
    Calls Tryz.prog 117 #[partV p u] w fun e w'=>e= .returned (.string (T (partS (rowS k) p)))∧Below w.heap.size w w':=by
  obtain⟨kd,tx,op,wd,q⟩:=p;obtain⟨up,uc,rfl, -, -⟩:=hu.is;dsimp only at hu hd hL;have HB:=yH (fun o=>below_one w o);obtain⟨R,hRR⟩:∃R,partS (rowS k) ⟨kd,tx,op,wd,q⟩=R:=⟨_,rfl⟩;rw[hRR]at hL ⊢;have HW:=yH (show ∀W,Below w.heap.size w W→(rowS k wd).length≤BigL→Calls Tryz.prog 94 #[.slice up wd.length uc] W fun e w'=>e= .returned (.string (T (rowS k wd)))∧Below W.heap.size W w' from fun W hb hl=>hR wd _ W (hu.stays hb) hd hl);show Calls _ _ #[.agg #[.int .i64 kd,.string (T tx),.string (T op),.slice up wd.length uc,.bool q]] _ _;obtain⟨N,hN⟩:∃N,wd.length=N:=⟨_,rfl⟩;rw[hN]at HW ⊢;clear hu hd hR hN
  by_cases hk1:kd=1
  · subst hk1
    cases q with
    |true=>
      have HR:=yH (show quotedT tx=R from hRR);have HQ:=yH (fun W=>rquoted_any tx W (by rw[HR.out];have:=hL;unfold BigL at this;omega));rw[HR.out]at HQ;clear hRR hL;obtain⟨s,hs⟩:∃s,T tx=s:=⟨_,rfl⟩;obtain⟨o,ho⟩:∃o,T op=o:=⟨_,rfl⟩;rw[hs]at HQ ⊢;rw[ho];go_enter Tryz.func117,Tryz.ntmps117
      go_wp2_with (go_at_call 141;refine(HQ.out _).mono ?_;rintro e w2 ⟨rfl,rfl⟩)
      go_ret;exact⟨rfl,HB.out _⟩
    |false=>
      have HR:=yH (show tx=R from hRR);rw[←HR.out];obtain⟨s,hs⟩:∃s,T tx=s:=⟨_,rfl⟩;obtain⟨o,ho⟩:∃o,T op=o:=⟨_,rfl⟩;rw[hs,ho];clear hRR hL;go_enter Tryz.func117,Tryz.ntmps117;go_wp2_with fail;go_ret;exact⟨rfl,HB.out _⟩
  · have b1:(kd==1)=false:=int_ne hk1
    have hlen:tx.length+8≤R.length+8∧(kd=2→op≠ [35]→tx.length+op.length+(rowS k wd).length≤R.length):=by
      rw[←hRR];unfold partS bareS;dsimp only;rw[if_neg hk1];refine⟨?_,fun h1 h2=> ?_⟩
      · repeat' split
        all_goals simp
        all_goals omega
      · rw[if_pos h1,if_neg h2]
        split<;>simp<;>omega
    unfold BigL at hL HW;have z1:(T tx).size≤1152921504606846976:=(by rw[T_size];omega);have bo:=eq_text op [35];have hR2:(if q then [34]++bareS (rowS k) ⟨kd,tx,op,wd,q⟩++ [34]else bareS (rowS k) ⟨kd,tx,op,wd,q⟩)=R:=(by rw[←hRR,partS];dsimp only;rw[if_neg hk1]);clear hRR
    by_cases hk2:kd=2
    · subst hk2
      by_cases ho:op= [35]
      · subst ho
        have e:bareS (rowS k) ⟨2,tx,[35],wd,q⟩= [36,123,35]++tx++ [125]:=rfl;rw[e]at hR2;have ho2:((T [35]).toList== [35])=true:=bo;obtain⟨o,hoo⟩:∃o,T [35]=o:=⟨_,rfl⟩;have HQ:=yH (show(if q then⟨#[34]⟩++(⟨#[36,123,35]⟩++T tx++⟨#[125]⟩)++⟨#[34]⟩else ⟨#[36,123,35]⟩++T tx++⟨#[125]⟩:ByteArray)=T R from by rw[←hR2];cases q<;>simp only[T_append,if_true,if_false,Bool.false_eq_true]);obtain⟨s,hs⟩:∃s,T tx=s:=⟨_,rfl⟩;rw[hs]at z1 HQ ⊢;rw[hoo]at ho2 ⊢;have s1:¬(9223372036854775807:Int)<3+(s.size:Int):=(by omega);have s2:¬(9223372036854775807:Int)<3+(s.size:Int)+1:=(by omega);have s3:¬(9223372036854775807:Int)<1+(3+(s.size:Int)+1):=(by omega);have s4:¬(9223372036854775807:Int)<1+(3+(s.size:Int)+1)+1:=(by omega);clear hs hoo bo e hR2 hlen hL hk1
        cases q
        all_goals
          go_enter Tryz.func117,Tryz.ntmps117;go_wp2_with fail;go_ret;exact⟨by rw[←HQ.out];rfl,HB.out _⟩
      · have e:bareS (rowS k) ⟨2,tx,op,wd,q⟩= [36,123]++tx++op++rowS k wd++ [125]:=by unfold bareS;dsimp only;rw[if_pos rfl,if_neg ho]
        rw[e]at hR2;have ho2:((T op).toList== [35])=false:=(by rw[bo];simpa using ho);have hl2:=hlen.2 rfl ho;have HQ:=yH (show(if q then⟨#[34]⟩++(⟨#[36,123]⟩++T tx++T op++T (rowS k wd)++⟨#[125]⟩)++⟨#[34]⟩else ⟨#[36,123]⟩++T tx++T op++T (rowS k wd)++⟨#[125]⟩:ByteArray)=T R from by rw[←hR2];cases q<;>simp only[T_append,if_true,if_false,Bool.false_eq_true]);have z2:(T op).size≤1152921504606846976:=(by rw[T_size];omega);have z3:(T (rowS k wd)).size≤1152921504606846976:=(by rw[T_size];omega);have HC:=yH (fun W hb=>HW.out W hb (by omega));obtain⟨s,hs⟩:∃s,T tx=s:=⟨_,rfl⟩;obtain⟨o,hoo⟩:∃o,T op=o:=⟨_,rfl⟩;obtain⟨r,hr⟩:∃r,T (rowS k wd)=r:=⟨_,rfl⟩;rw[hs]at z1 HQ ⊢;rw[hoo]at z2 HQ ho2 ⊢;rw[hr]at z3 HQ HC;have s1:¬(9223372036854775807:Int)<2+(s.size:Int):=(by omega);have s2:¬(9223372036854775807:Int)<2+(s.size:Int)+(o.size:Int):=(by omega);have s3:¬(9223372036854775807:Int)<2+(s.size:Int)+(o.size:Int)+(r.size:Int):=(by omega);have s4:¬(9223372036854775807:Int)<2+(s.size:Int)+(o.size:Int)+(r.size:Int)+1:=(by omega);have s5:¬(9223372036854775807:Int)<1+(2+(s.size:Int)+(o.size:Int)+(r.size:Int)+1):=(by omega);have s6:¬(9223372036854775807:Int)<1+(2+(s.size:Int)+(o.size:Int)+(r.size:Int)+1)+1:=(by omega);clear hs hoo hr bo e hR2 hlen hL hk1 hl2 HW ho;go_enter Tryz.func117,Tryz.ntmps117;go_wp2_with fail;obtain⟨w1,hw1⟩:∃w1,w.alloc (.cells #[.int .i64 2,.string s,.string o,.slice up N uc,.bool q] 113)=w1:=⟨_,rfl⟩;have HB1:=yH (show Below w.heap.size w w1 by rw[←hw1];exact HB.out _);have hpc:PC w1 w.heap.size 2 s o (.slice up N uc) q:=(by rw[←hw1];exact PC.new _ _ _ _ _ _ _);have HPC:=yH hpc;rw[hw1];clear hw1 hpc;have hc2:=HPC.out.2.2.1;have hc3:=HPC.out.2.2.2.1;have hd2:=(show w1.drew.cell? _=_ from hc2);have hd3:=(show w1.drew.cell? _=_ from hc3);have n1:¬9223372036854775807<2+s.size:=(by omega);have n2:¬9223372036854775807<2+s.size+o.size:=(by omega);have n3:¬9223372036854775807<2+s.size+o.size+r.size:=(by omega);have n4:¬9223372036854775807<2+s.size+o.size+r.size+1:=(by omega);have HCD:=yH (fun n=>HC.out (w1.drewN n) ⟨HB1.out.os,HB1.out.tape,HB1.out.output,HB1.out.size,HB1.out.block⟩)
        go_region_held (fun W=>W.cell? ⟨w.heap.size,2,none⟩=some (.string o)∧W.cell? ⟨w.heap.size,3,none⟩=some (.slice up N uc)) (first|exact⟨hd2,hd3⟩|exact⟨hc2,hc3⟩|assumption|exact S2.out) ((go_at_call 94;refine(HCD.out 1).mono ?_;rintro e w2 ⟨rfl,hb⟩;have hb:Below w1.heap.size w1 w2:=⟨hb.os,hb.tape,hb.output,hb.size,hb.block⟩;have S2:=yH (show w2.cell? ⟨w.heap.size,2,none⟩=some (.string o)∧w2.cell? ⟨w.heap.size,3,none⟩=some (.slice up N uc)from ⟨cell_below hc2 hb,cell_below hc3 hb⟩);have HB2:=yH hb;clear hb))
        have c4:=cell_below HPC.out.2.2.2.2 HB2.out
        cases q
        all_goals
          go_wp2_with fail;go_ret;exact⟨by rw[←HQ.out];rfl,HB1.out.trans (HB2.out.mono HB1.out.size)⟩
    · have b2:(kd==2)=false:=int_ne hk2
      have e:bareS (rowS k) ⟨kd,tx,op,wd,q⟩= [36,40,40]++tx++ [41,41]:=(by unfold bareS;dsimp only;rw[if_neg hk2]);rw[e]at hR2;have HQ:=yH (show(if q then⟨#[34]⟩++(⟨#[36,40,40]⟩++T tx++⟨#[41,41]⟩)++⟨#[34]⟩else ⟨#[36,40,40]⟩++T tx++⟨#[41,41]⟩:ByteArray)=T R from by rw[←hR2];cases q<;>simp only[T_append,if_true,if_false,Bool.false_eq_true]);obtain⟨s,hs⟩:∃s,T tx=s:=⟨_,rfl⟩;obtain⟨o,hoo⟩:∃o,T op=o:=⟨_,rfl⟩;rw[hs]at z1 HQ ⊢;rw[hoo];have s1:¬(9223372036854775807:Int)<3+(s.size:Int):=(by omega);have s2:¬(9223372036854775807:Int)<3+(s.size:Int)+2:=(by omega);have s3:¬(9223372036854775807:Int)<1+(3+(s.size:Int)+2):=(by omega);have s4:¬(9223372036854775807:Int)<1+(3+(s.size:Int)+2)+1:=(by omega);clear hs hoo bo e hR2 hlen hL hk1 hk2
      cases q
      all_goals
        go_enter Tryz.func117,Tryz.ntmps117;go_wp2_with fail;go_ret;exact⟨by rw[←HQ.out];rfl,HB.out _⟩
set_option maxHeartbeats 2000000 in
set_option maxRecDepth 100000 in
theorem rrow_next {k:Nat} (hR:RowDo k):RowDo (k+1):=by
  intro ps v w hv hd hL;obtain⟨p,c,rfl,hlen,hat⟩:=hv.is;have HP:=yH (fun (q:Pt) (u:Value) (W:World) (hu:PsAt W u q.word) (hd:depS k q.word=true) (hl:(partS (rowS k) q).length≤BigL)=>rpart_in hR q u W hu hd hl);have HAT:=yH hat;have HD:=yH (show ∀q∈ps,depS k q.word=true from fun q hq=>List.all_eq_true.1 hd q hq);obtain⟨R,hRR⟩:∃R,rowS (k+1) ps=R:=⟨_,rfl⟩;rw[hRR]at hL ⊢;have HR:=yH (show([]:List UInt8)++((ps.drop 0).map (partS (rowS k))).flatten=R from hRR);have HL:=yH hL;obtain⟨N,hN⟩:∃N,ps.length=N:=⟨_,rfl⟩;have HN:=yH hN;have hN0:(N:Int)≤2^63-1:=(by unfold maxLen at hlen;omega);rw[hN];clear hRR hv hd hlen hat hR hN hL;go_enter Tryz.func94,Tryz.ntmps94;go_wp2_with fail
  go_loopw [3,4] (fun v i wr=> ∃(j:Nat) (a:List UInt8),v= .string (T a)∧i= .int .i64 (j:Int)∧j≤N∧Below w.heap.size w wr∧a++((ps.drop j).map (partS (rowS k))).flatten=R) (fun _ i _=>N-(intOf i).toNat)
  case atStart=>exact⟨0,[],rfl,rfl,by omega,Below.refl _ _,HR.out⟩
  case round=>
    obtain⟨j,a,rfl,rfl,hj,hb,hr⟩:=hrel;have hL:=HL.out;unfold BigL at hL;obtain⟨A,hA⟩:∃A,T a=A:=⟨_,rfl⟩;have HA:=yH hA;rw[hA]
    by_cases hlt:j<N
    · obtain⟨q,hq⟩:∃x,ps[j]? =some x:=⟨_,List.getElem?_eq_getElem (by rw[HN.out];exact hlt)⟩
      obtain⟨u,hsp,hu⟩:=HAT.out j q hq;have hsp:=hsp.below hb;have hu:=hu.stays hb;obtain⟨b,o,rfl,hc⟩:=hsp;have c0:=hc 0 _ rfl;rw[Nat.add_zero]at c0;have c1:=hc 1 _ rfl;have c2:=hc 2 _ rfl;have c3:=hc 3 _ rfl;have c4:=hc 4 _ rfl;rw[drop_get hq,List.map_cons,List.flatten_cons]at hr;have hl:=congrArg List.length hr;simp only[List.length_append]at hl;have HC:=yH (HP.out q u wr hu (HD.out q (List.mem_of_getElem? hq)) (by unfold BigL;omega));have HRR:=yH (show(a++partS (rowS k) q)++((ps.drop (j+1)).map (partS (rowS k))).flatten=R from by rw[←hr,List.append_assoc]);have hAz:A.size≤1152921504606846976:=(by rw[←hA,T_size];omega);have hrz:(T (partS (rowS k) q)).size≤1152921504606846976:=(by rw[T_size];omega);have HQ:=yH (show A++T (partS (rowS k) q)=T (a++partS (rowS k) q)from by rw[T_append,hA]);obtain⟨r,hrr⟩:∃r,T (partS (rowS k) q)=r:=⟨_,rfl⟩;rw[hrr]at HC hrz HQ;have s1:¬(9223372036854775807:Int)<(A.size:Int)+(r.size:Int):=(by omega);have hj0:(j:Int)<(N:Int):=(by omega);have HB:=yH hb;have HJ:=yH hlt;clear hc hr hl hb hlt hj hq hu hrr hA hL;unfold partV txt at HC;unfold txt at c1 c2
      go_wp2_with (go_at_call 117;refine HC.out.mono ?_;rintro e w2 ⟨rfl,hb2⟩;have HB2:=yH hb2;clear hb2)
      exact⟨⟨j+1,_,by rw[HQ.out],by simp,HJ.out,HB.out.trans (HB2.out.mono HB.out.size),HRR.out⟩,by have:=HJ.out;simp[intOf];omega⟩
    · obtain rfl:j=N:=by omega
      have hd:ps.drop j= []:=List.drop_of_length_le (by rw[HN.out];exact Nat.le_refl _);rw[hd,List.map_nil,List.flatten_nil,List.append_nil]at hr;have hj0:¬(j:Int)<(j:Int):=(by omega);have HQ:=yH (show A=T R from by rw[←hr,hA]);have HB:=yH hb;clear hr hd hj hlt hA hb hL;go_wp2_with fail;go_ret;exact⟨by rw[←HQ.out];rfl,HB.out⟩
theorem rrow_any:∀k,RowDo k
  |0=>by
    intro ps v w hv hd hL;obtain rfl:ps= []:=(by simpa [depS]using hd);obtain⟨p,c,rfl, -, -⟩:=hv.is;go_enter Tryz.func94,Tryz.ntmps94;go_wp2_with fail
    go_loopw [3,4] (fun v i wr=>v= .string ⟨#[]⟩∧i= .int .i64 0∧Below w.heap.size w wr) (fun _ _ _=>0)
    case atStart=>exact⟨rfl,rfl,Below.refl _ _⟩
    case round=>
      obtain⟨rfl,rfl,hb⟩:=hrel;go_wp2_with fail;go_ret;exact⟨rfl,hb⟩
  |k+1=>rrow_next (rrow_any k)
theorem rword_text (ps:List Pt) (v:Value) (w:World) (hv:PsAt w v ps) (hd:depS 22 ps=true) (hL:(wordS ps).length≤BigL):
    Calls Tryz.prog 65 #[wordV v] w fun e w'=>e= .returned (.string (T (wordS ps)))∧Below w.heap.size w w':=by
  have HB:=yH (fun o=>below_one w o);have HR:=yH (fun o=>rrow_any 22 ps v (w.alloc o) (hv.stays (HB.out o)) hd hL);obtain⟨R,hR⟩:∃R,T (wordS ps)=R:=⟨_,rfl⟩;have HR2:=yH (show ∀o,Calls Tryz.prog 94 #[v] (w.alloc o) fun e w'=>e= .returned (.string R)∧Below (w.alloc o).heap.size (w.alloc o) w' from hR▸HR.out);obtain⟨p,c,rfl, -, -⟩:=hv.is;rw[hR];unfold wordV;clear HR hR hv hd hL;go_enter Tryz.func65,Tryz.ntmps65
  go_wp2_with (go_at_call 94;refine(HR2.out _).mono ?_;rintro e w2 ⟨rfl,hb2⟩;have HB2:=yH hb2;clear hb2)
  go_ret;exact⟨rfl,(HB.out _).trans (HB2.out.mono (HB.out _).size)⟩
end Go.Proofs.YtakceggnadagmaaGreatDoor
namespace Go.Proofs.YtakceggnadagmaaGreatDoor
open Go Go.RowKit GlyphMath LexMath TreeMath
set_option maxRecDepth 100000 in
theorem rplain_any (ps:List Pt) (v:Value) (w:World) (hv:PsAt w v ps):
    Calls Tryz.prog 60 #[wordV v] w fun e w'=>e= .returned (.tuple #[.string (T ((plainT ps).getD [])),.bool (plainT ps).isSome])∧Below w.heap.size w w':=by
  have HB:=yH (fun o=>below_one w o);unfold wordV
  match ps,hv with
  | [],hv=>
    obtain⟨p,c,rfl, -, -⟩:=hv.is;clear hv;go_enter Tryz.func60,Tryz.ntmps60;go_wp2_with fail
    go_ret2
    exact⟨rfl,HB.out _⟩
  |q::q2::r,hv=>
    obtain⟨p,c,rfl, -, -⟩:=hv.is
    have hL:(((q::q2::r).length:Int) !=1)=true:=by
      have:((q::q2::r).length:Int)≠1:=by rw[List.length_cons,List.length_cons];omega
      simpa using this
    have HT:=yH (show T ((plainT (q::q2::r)).getD [])=⟨#[]⟩∧(plainT (q::q2::r)).isSome=false from⟨rfl,rfl⟩);rw[HT.out.1,HT.out.2];obtain⟨L,hLL⟩:∃L,(q::q2::r).length=L:=⟨_,rfl⟩;rw[hLL]at hL ⊢;clear hv hLL;go_enter Tryz.func60,Tryz.ntmps60;go_wp2_with fail
    go_ret2
    exact⟨rfl,HB.out _⟩
  | [q],hv=>
    obtain⟨b,o,c,u,rfl, -,c0,c1,c2,c3,c4⟩:=first_cells hv;show Calls _ _ #[.agg #[.slice (some ⟨b,o,none⟩) 1 c]] _ _;obtain⟨s,hs⟩:∃s,T q.text=s:=⟨_,rfl⟩
    have HT:=yH (show T ((plainT [q]).getD [])=(if bareT q=true then s else⟨#[]⟩)∧(plainT [q]).isSome=bareT q from by
      rw[←hs];show T ((if bareT q=true then some q.text else none).getD [])=_∧(if bareT q=true then some q.text else none).isSome=_
      cases bareT q<;>exact⟨rfl,rfl⟩)
    rw[HT.out.1,HT.out.2];have HBT:=yH (show bareT q=(q.kind==1&& !q.q)from rfl);rw[HBT.out];rw[hs]at c1;obtain⟨kd,hkd⟩:∃s,q.kind=s:=⟨_,rfl⟩;obtain⟨qq,hqq⟩:∃s,q.q=s:=⟨_,rfl⟩;rw[hkd]at c0 ⊢;rw[hqq]at c4 ⊢;have d0:=fun x=>cell_below c0 (HB.out x);have d1:=fun x=>cell_below c1 (HB.out x);have d4:=fun x=>cell_below c4 (HB.out x);clear hv hs hkd hqq HBT HT c2 c3
    by_cases h:kd=1
    · subst h
      cases qq
      all_goals
        go_enter Tryz.func60,Tryz.ntmps60;go_wp2_with fail
        go_ret2
        exact⟨rfl,HB.out _⟩
    · have h1:(kd !=1)=true:=by simpa using h
      have h2:=int_ne h;rw[h2];clear h h2;go_enter Tryz.func60,Tryz.ntmps60;go_wp2_with fail
      go_ret2
      exact⟨rfl,HB.out _⟩
theorem gives_open (ps:List Pt):givesT ps=(match aheadT (openT ps)with|some n=>nameT n|none=>false):=rfl
def givesB (tx pre:List UInt8):Bool:=match aheadT tx with
  |some n=>nameT (pre++n)
  |none=>false
theorem givesB_nil (pre:List UInt8):givesB [] pre=false:=rfl
theorem givesB_hit (r pre:List UInt8):givesB (61::r) pre=nameT pre:=by
  unfold givesB;rw[aheadT,if_pos rfl];simp
theorem givesB_miss {c:UInt8} (h:¬c=61) (r pre:List UInt8):givesB (c::r) pre=givesB r (pre++ [c]):=by
  unfold givesB;rw[aheadT,if_neg h]
  cases aheadT r with
  |none=>rfl
  |some n=>simp
theorem take_T (s:ByteArray) (k:Nat):s.extract 0 k=T (s.data.toList.take k):=by
  apply ByteArray.ext;apply Array.toList_inj.1;simp[ByteArray.data_extract]
set_option maxHeartbeats 1000000 in
set_option maxRecDepth 100000 in
theorem risassign_any (ps:List Pt) (v:Value) (w:World) (hv:PsAt w v ps) (hsm:Small ps) (hT:Tabs w):
    Calls Tryz.prog 59 #[wordV v] w fun e w'=> ∃n:Int,e= .returned (.tuple #[.int .i64 n,.bool (givesT ps)])∧Below w.heap.size w w':=by
  have HB:=yH (fun o=>below_one w o);have HT:=yH hT;clear hT;unfold wordV
  match ps,hv,hsm with
  | [],hv,_=>
    obtain⟨p,c,rfl, -, -⟩:=hv.is;clear hv;go_enter Tryz.func59,Tryz.ntmps59;go_wp2_with fail
    go_ret2
    exact⟨_,rfl,HB.out _⟩
  |q::r,hv,hsm=>
    obtain⟨b,o,c,u,rfl, -,c0,c1,c2,c3,c4⟩:=first_cells hv;obtain⟨R,hR⟩:∃R,givesT (q::r)=R:=⟨_,rfl⟩;rw[hR]
    have HG:=yH (show R=if (q.kind==1&& !q.q)then givesB q.text []else false from by
      rw[←hR,gives_open];show(match aheadT (if(q.kind==1&& !q.q)=true then q.text else [])with|some n=>nameT n|none=>false)=_
      cases (q.kind==1&& !q.q)
      · rfl
      · unfold givesB
        simp only[↓reduceIte,List.nil_append])
    have hsz:(T q.text).size≤1048576:=(hsm.get (List.mem_cons_self)).1;have HTX:=yH (show(T q.text).data.toList=q.text from rfl);obtain⟨tx,htx⟩:∃tx,q.text=tx:=⟨_,rfl⟩;rw[htx]at HG HTX c1 hsz;obtain⟨s,hs⟩:∃s,T tx=s:=⟨_,rfl⟩;rw[hs]at c1 HTX hsz;obtain⟨kd,hkd⟩:∃s,q.kind=s:=⟨_,rfl⟩;obtain⟨qq,hqq⟩:∃s,q.q=s:=⟨_,rfl⟩;rw[hkd]at c0 HG;rw[hqq]at c4 HG;have hL:((r.length+1:Nat):Int)≠0:=(by omega);obtain⟨L,hLL⟩:∃L,r.length+1=L:=⟨_,rfl⟩;rw[hLL]at hL ⊢;have hL1:=int_ne hL;have hL2:(0:Int)<(L:Int):=(by omega);have d0:=fun x=>cell_below c0 (HB.out x);have d1:=fun x=>cell_below c1 (HB.out x);have d4:=fun x=>cell_below c4 (HB.out x);have HSZ:=yH hsz;clear hv hs hkd hqq c2 c3 hR htx hL hLL hsm
    by_cases h:kd=1
    · subst h
      cases qq with
      |true=>
        have HF:=yH (show R=false from HG.out);rw[HF.out];clear HG;go_enter Tryz.func59,Tryz.ntmps59;go_wp2_with fail
        go_ret2
        exact⟨_,rfl,HB.out _⟩
      |false=>
        have HG:=yH (show givesB tx []=R from HG.out.symm);go_enter Tryz.func59,Tryz.ntmps59;go_wp2_with fail
        go_loopw [5] (fun i wr=> ∃k:Nat,i= .int .i64 (k:Int)∧k≤s.size∧givesB (tx.drop k) (tx.take k)=R∧Below w.heap.size w wr) (fun i _=>s.size-(intOf i).toNat)
        case atStart=>exact⟨0,rfl,Nat.zero_le _,by rw[List.drop_zero,List.take_zero];exact HG.out,HB.out _⟩
        case round=>
          obtain⟨k,rfl,hk,hr,hb⟩:=hrel;have HBR:=yH hb;clear hb
          by_cases hlt:k<s.size
          · have hj:(k:Int)<(s.size:Int):=by omega
            have hg:tx.drop k=s.get! k::tx.drop (k+1):=(by rw[←HTX.out];exact get_drop s k hlt);have hlen:tx.length=s.size:=(by rw[←HTX.out,←Lib.size_eq])
            have htk:tx.take (k+1)=tx.take k++ [s.get! k]:=by
              have h1:k<tx.length:=(by omega);rw[List.take_succ_eq_append_getElem h1]
              congr 2
              have h2:=List.drop_eq_getElem_cons h1;rw[hg]at h2;simp only[List.cons.injEq]at h2;exact h2.1.symm
            rw[hg,get_is s k hlt]at hr;rw[get_is s k hlt]at htk;have HKK:=yH hlt
            by_cases h61:s[k]'hlt=61
            · rw[h61,givesB_hit]at hr
              have hb:(((s[k]'hlt).toNat:Int)==61)=true:=by rw[h61];rfl
              have HN:=yH (show Calls Tryz.prog 29 #[.string (s.extract 0 k)] wr fun e w'=>e= .returned (.bool R)∧Below wr.heap.size wr w' from by
                have:=rname_any (s.extract 0 k) wr (by have:=HSZ.out;simp[ByteArray.size_extract];omega) (HT.out.below HBR.out);rw[take_T,HTX.out]at this ⊢
                rwa [show nameL (letters (T (tx.take k)))=R from hr]at this)
              clear hr hg hk h61 htk hlen
              go_wp2_with (go_at_call 29;refine HN.out.mono ?_;rintro e w2 ⟨rfl,hb⟩;have HB2:=yH (HBR.out.trans (hb.mono HBR.out.size));clear hb)
              go_ret2
              exact⟨_,rfl,HB2.out⟩
            · rw[givesB_miss h61,←htk]at hr
              have hb:(((s[k]'hlt).toNat:Int)==61)=false:=int_ne fun e=>h61 (UInt8.toNat_inj.1 (by show _=61;omega));have HR:=yH hr;clear hr hg hk h61 htk hlen;go_wp2_with fail
              go_roundw
              case rel=>exact⟨k+1,by go_num,HKK.out,HR.out,HBR.out⟩
              case measure=>have:=HKK.out;simp[intOf];omega
          · have hj:¬(k:Int)<(s.size:Int):=by omega
            have HF:=yH (show R=false from by
              rw[←hr,←HTX.out,drop_all s k hlt,givesB_nil])
            clear hr hlt hk;go_wp2_with fail
            go_ret2
            exact⟨⟨0,by rw[HF.out];rfl⟩,HBR.out⟩
    · have h1:(kd !=1)=true:=by simpa using h
      have HF:=yH (show R=false from by rw[HG.out,int_ne h];rfl);rw[HF.out];clear h HG;go_enter Tryz.func59,Tryz.ntmps59;go_wp2_with fail
      go_ret2
      exact⟨_,rfl,HB.out _⟩
theorem word_first {q:Pt} {r:List Pt} (h:wordT (q::r)=true):partT (rowT 20) false q=true:=by
  unfold wordT at h;rw[Bool.and_eq_true]at h;have h2:=h.2;rw[rowT,sideT,Bool.and_eq_true]at h2;exact h2.1
theorem bare_first {q:Pt} {r:List Pt} (h:wordT (q::r)=true) (h1:q.kind=1) (h2:q.q=false):q.text≠ []:=by
  have hp:=word_first h;unfold partT at hp;rw[if_pos h1,Bool.and_eq_true,Bool.and_eq_true]at hp;have hl:=hp.2.2;unfold litT at hl;rw[h2,Bool.false_or,Bool.and_eq_true,Bool.and_eq_true]at hl;intro e;rw[e]at hl;simp at hl
set_option maxHeartbeats 1000000 in
set_option maxRecDepth 100000 in
theorem ropen_any (ps:List Pt) (v:Value) (w:World) (hv:PsAt w v ps) (hs:Small ps) (hT:Tabs w):
    Calls Tryz.prog 31 #[wordV v] w fun e w'=>e= .returned (.bool (bareW ps))∧Below w.heap.size w w':=by
  have HB:=yH (fun o=>below_one w o);obtain⟨B,hB⟩:∃B,wordT ps=B:=⟨_,rfl⟩;have HW:=yH (show ∀o,Calls Tryz.prog 58 #[.agg #[v]] (w.alloc o) fun e w'=>e= .returned (.bool B)∧Below (w.alloc o).heap.size (w.alloc o) w' from fun o=>by rw[←hB];exact rword_any ps v _ (hv.stays (HB.out o)) hs (hT.below (HB.out o)));obtain⟨R,hR⟩:∃R,bareW ps=R:=⟨_,rfl⟩;have HR:=yH (show R=(B&& !hashT (openT ps))from by rw[←hR,←hB];rfl);rw[hR];unfold wordV
  cases B with
  |false=>
    have HF:=yH (show false=R from HR.out.symm);obtain⟨p,c,rfl, -, -⟩:=hv.is;obtain⟨L,hL⟩:∃L,ps.length=L:=⟨_,rfl⟩;rw[hL]at HW ⊢;clear hv hs hT hB hR HR hL;go_enter Tryz.func31,Tryz.ntmps31
    go_wp2_with (go_at_call 58;refine(HW.out _).mono ?_;rintro e w2 ⟨rfl,hb⟩;have HB2:=yH ((HB.out _).trans (hb.mono (HB.out _).size));clear hb)
    go_ret;exact⟨ret_bool HF.out,HB2.out⟩
  |true=>
    match ps,hv,hs,hB,HR,HW with
    | [],_,_,hB,_,_=>cases hB
    |q::r,hv,hs,hB,HR,HW=>
      obtain⟨b,o,c,u,rfl,⟨up,uc,rfl⟩,c0,c1,c2,c3,c4⟩:=first_cells hv;have hne:=bare_first hB;obtain⟨tx,htx⟩:∃tx,q.text=tx:=⟨_,rfl⟩;have HG:=yH (show R= !hashT (if(q.kind==1&& !q.q)=true then tx else [])from by rw[←htx];exact HR.out);rw[htx]at c1 hne;obtain⟨s,hs2⟩:∃s,T tx=s:=⟨_,rfl⟩;have HTX:=yH (show s.data.toList=tx from by rw[←hs2]);obtain⟨s2,hs3⟩:∃s,T q.op=s:=⟨_,rfl⟩;obtain⟨kd,hkd⟩:∃s,q.kind=s:=⟨_,rfl⟩;obtain⟨qq,hqq⟩:∃s,q.q=s:=⟨_,rfl⟩;obtain⟨ul,hul⟩:∃s,q.word.length=s:=⟨_,rfl⟩;rw[hs2]at c1;rw[hs3]at c2;rw[hkd]at c0 HG hne;rw[hqq]at c4 HG hne;rw[hul]at c3;have hL2:(0:Int)<((r.length+1:Nat):Int):=(by omega);obtain⟨L,hLL⟩:∃L,r.length+1=L:=⟨_,rfl⟩;rw[hLL]at hL2 HW ⊢;have HWX:=yH (word_cell w (.slice (some ⟨b,o,none⟩) L c) 70);have HC:=yH (fun (W:World) (hW:Below w.heap.size w W)=>(⟨cell_below c0 hW,cell_below c1 hW,cell_below c2 hW,cell_below c3 hW,cell_below c4 hW⟩:W.cell? ⟨b,o,none⟩=some (.int .i64 kd)∧W.cell? ⟨b,o+1,none⟩=some (.string s)∧W.cell? ⟨b,o+2,none⟩=some (.string s2)∧W.cell? ⟨b,o+3,none⟩=some (.slice up ul uc)∧W.cell? ⟨b,o+4,none⟩=some (.bool qq)));clear hv hs hT hB hR HR htx hs2 hs3 hkd hqq hul hLL c0 c1 c2 c3 c4;go_enter Tryz.func31,Tryz.ntmps31
      by_cases h:kd=1
      · subst h
        cases qq with
        |true=>
          have HF:=yH (show true=R from HG.out.symm);clear hne HG
          go_wp2_with (go_at_call 58;refine(HW.out _).mono ?_;rintro e w2 ⟨rfl,hb⟩;have hx:=cell_below HWX.out hb;have HB2:=yH ((HB.out _).trans (hb.mono (HB.out _).size));obtain⟨c0,c1,c2,c3,c4⟩:=HC.out w2 HB2.out;clear hb)
          go_ret;exact⟨ret_bool HF.out,HB2.out.alloc HB2.out.size _⟩
        |false=>
          obtain⟨ch,rest,hcr⟩:∃ch rest,tx=ch::rest:=by
            cases tx with
            |nil=>exact absurd rfl (hne rfl rfl)
            |cons a b=>exact⟨a,b,rfl⟩
          have HF:=yH (show R= !(ch==35)from by rw[HG.out,hcr];rfl);have hsz:0<s.size:=(by rw[Lib.size_eq,HTX.out,hcr];simp)
          have hget:s[0]'hsz=ch:=by
            rw[←get_is s 0 hsz];have:=get_drop s 0 hsz;rw[List.drop_zero,HTX.out,hcr]at this;simp only[List.cons.injEq]at this;exact this.1.symm
          have HSI:=yH (show(0:Int)<(s.size:Int) by omega);have hsi:=HSI.out
          by_cases h35:ch=35
          · have HF2:=yH (show false=R from by rw[HF.out,h35];rfl)
            have hb:(((s[0]'hsz).toNat:Int) !=35)=false:=(by rw[hget,h35];rfl);clear hne HG hcr hget h35 HF
            go_wp2_with (go_at_call 58;refine(HW.out _).mono ?_;rintro e w2 ⟨rfl,hb⟩;have hx:=cell_below HWX.out hb;have HB2:=yH ((HB.out _).trans (hb.mono (HB.out _).size));obtain⟨c0,c1,c2,c3,c4⟩:=HC.out w2 HB2.out;clear hb)
            go_ret;exact⟨ret_bool HF2.out,HB2.out.alloc HB2.out.size _⟩
          · have HF2:=yH (show true=R from by
              rw[HF.out];have:(ch==35)=false:=(by simpa using h35)
              rw[this];rfl)
            have hb:(((s[0]'hsz).toNat:Int) !=35)=true:=by
              rw[hget];have:((ch.toNat:Int)==35)=false:=int_ne fun e=>h35 (UInt8.toNat_inj.1 (by show _=35;omega));show(!((ch.toNat:Int)==35))=true;rw[this];rfl
            clear hne HG hcr hget h35 HF
            go_wp2_with (go_at_call 58;refine(HW.out _).mono ?_;rintro e w2 ⟨rfl,hb⟩;have hx:=cell_below HWX.out hb;have HB2:=yH ((HB.out _).trans (hb.mono (HB.out _).size));obtain⟨c0,c1,c2,c3,c4⟩:=HC.out w2 HB2.out;clear hb)
            go_ret;exact⟨ret_bool HF2.out,HB2.out.alloc HB2.out.size _⟩
      · have h1:(kd !=1)=true:=by simpa using h
        have HF:=yH (show true=R from by rw[HG.out,int_ne h];rfl);clear hne HG h
        go_wp2_with (go_at_call 58;refine(HW.out _).mono ?_;rintro e w2 ⟨rfl,hb⟩;have hx:=cell_below HWX.out hb;have HB2:=yH ((HB.out _).trans (hb.mono (HB.out _).size));obtain⟨c0,c1,c2,c3,c4⟩:=HC.out w2 HB2.out;clear hb)
        go_ret;exact⟨ret_bool HF.out,HB2.out.alloc HB2.out.size _⟩
set_option maxHeartbeats 1000000 in
set_option maxRecDepth 100000 in
theorem ropens_any (l:List (List Pt)) (v:Value) (w:World) (hv:WsAt w v l) (hs:∀x∈l,Small x) (hT:Tabs w):
    Calls Tryz.prog 30 #[v] w fun e w'=>e= .returned (.bool (l.all bareW))∧Below w.heap.size w w':=by
  have HV:=yH hv;have HS:=yH hs;have HT:=yH hT;obtain⟨p,c,rfl⟩:=WsAt.is hv;have hfew:=hv.few;obtain⟨R,hR⟩:∃R,l.all bareW=R:=⟨_,rfl⟩;have HR:=yH hR;obtain⟨N,hN⟩:∃N,l.length=N:=⟨_,rfl⟩;have HN:=yH hN;have hN0:(N:Int)≤2^63-1:=(by unfold maxLen at hfew;omega);rw[hR];rw[hN]at HV ⊢;clear hv hs hR hN hfew hT;go_enter Tryz.func30,Tryz.ntmps30;go_wp2_with fail
  go_loopw [3] (fun i wr=> ∃j,j≤N∧i= .int .i64 (j:Int)∧Below w.heap.size w wr∧(l.drop j).all bareW=R) (fun i _=>N-(intOf i).toNat)
  case atStart=>exact⟨0,by omega,rfl,Below.refl _ _,HR.out⟩
  case round=>
    obtain⟨j,hj,rfl,hb,hsd⟩:=hrel
    by_cases hlt:j<N
    · obtain⟨x,hx⟩:∃x,l[j]? =some x:=⟨_,List.getElem?_eq_getElem (by rw[HN.out];exact hlt)⟩
      obtain⟨b,o,rfl⟩:=SlAt.ptr HV.out hx;obtain⟨cs,⟨u,rfl,hu⟩,hc⟩:=SlAt.cell HV.out rfl hx;have hj0:(j:Int)<(N:Int):=(by omega);have HSX:=yH (HS.out x (List.mem_of_getElem? hx));rw[drop_get hx,List.all_cons]at hsd;have HSD:=yH hsd;have HB:=yH hb;have HJ:=yH hlt
      have c0:wr.cell? ⟨b,o+j,none⟩=some u:=by
        have:=cell_below (hc 0 _ rfl) hb
        rwa [show o+j*1+0=o+j by omega]at this
      obtain⟨up,uc,rfl, -, -⟩:=hu.is;have HE:=yH (ropen_any x (.slice up x.length uc) wr (hu.stays hb) HSX.out (HT.out.below hb));unfold wordV at HE;obtain⟨ul,hul⟩:∃ul,x.length=ul:=⟨_,rfl⟩;rw[hul]at HE c0;clear hul;clear hsd hb hlt hj hx hc hu;obtain⟨P,hP⟩:∃P,bareW x=P:=⟨_,rfl⟩;rw[hP]at HE HSD;clear hP
      cases P
      · have HF:=yH (show false=R from HSD.out)
        go_wp2_with (go_at_call 31;refine HE.out.mono ?_;rintro e w2 ⟨rfl,hb2⟩;have HB2:=yH (HB.out.trans (hb2.mono HB.out.size));clear hb2)
        go_ret;exact⟨ret_bool HF.out,HB2.out⟩
      · have HF:=yH (show(l.drop (j+1)).all bareW=R from HSD.out)
        go_wp2_with (go_at_call 31;refine HE.out.mono ?_;rintro e w2 ⟨rfl,hb2⟩;have HB2:=yH (HB.out.trans (hb2.mono HB.out.size));clear hb2)
        exact⟨⟨j+1,by have:=HJ.out;omega,by go_num,HB2.out,HF.out⟩,by have:=HJ.out;simp[intOf];omega⟩
    · obtain rfl:j=N:=by omega
      have hj0:¬(j:Int)<(j:Int):=(by omega);rw[List.drop_of_length_le (by rw[HN.out];exact Nat.le_refl _)]at hsd;have HE:=yH (show true=R from hsd);have HB:=yH hb;clear hsd hb hlt hj;go_wp2_with fail;go_ret;exact⟨ret_bool HE.out,HB.out⟩
theorem pos_len {α:Type} (l:List α):decide ((0:Int)<(l.length:Int))= !l.isEmpty:=by
  cases l with
  |nil=>rfl
  |cons a r=>exact decide_eq_true (by rw[List.length_cons];omega)
structure NSmall (n:Nd):Prop where
  words:∀y∈n.words,Small y
  pats:∀l∈n.pats,∀y∈l,Small y
  assigns:∀y∈n.assigns,Small y.2
  redirs:∀y∈n.redirs,Small y.2
  name:n.name.length≤1048576
  names:∀y∈n.assigns,y.1.length≤1048576
theorem node_all (w:World) (o x:ByteArray) (kv wv pv av rv:Value) (t:TypeId):∀W,Below (w.alloc (.cells #[.string o,.string x,kv,wv,pv,av,rv] t)).heap.size (w.alloc (.cells #[.string o,.string x,kv,wv,pv,av,rv] t)) W→
    W.cell? ⟨w.heap.size,0,none⟩=some (.string o)∧W.cell? ⟨w.heap.size,1,none⟩=some (.string x)∧W.cell? ⟨w.heap.size,2,none⟩=some kv∧W.cell? ⟨w.heap.size,3,none⟩=some wv∧W.cell? ⟨w.heap.size,4,none⟩=some pv∧W.cell? ⟨w.heap.size,5,none⟩=some av∧W.cell? ⟨w.heap.size,6,none⟩=some rv:=by
  intro W hb;have h:=heap_alloc_new w (.cells #[.string o,.string x,kv,wv,pv,av,rv] t);exact⟨cell_below (cell_plain h 0) hb,cell_below (cell_plain h 1) hb,cell_below (cell_plain h 2) hb,cell_below (cell_plain h 3) hb,cell_below (cell_plain h 4) hb,cell_below (cell_plain h 5) hb,cell_below (cell_plain h 6) hb⟩
theorem rB {w v u:World} {a b:Bool} (h:Hid (Below w.heap.size w v)) (k:Hid (Below v.heap.size v u)) (e:a=b:=by rfl):Ending.returned (.bool a)= .returned (.bool b)∧Below w.heap.size w u:=⟨ret_bool e,h.out.trans (k.out.mono h.out.size)⟩
theorem nBox (w:World) (o x:ByteArray) (kv wv pv av rv:Value) (t:TypeId):∃v,w.alloc (.cells #[.string o,.string x,kv,wv,pv,av,rv] t)=v∧Hid (Below w.heap.size w v)∧Hid (∀W,Below v.heap.size v W→W.cell? ⟨w.heap.size,0,none⟩=some (.string o)∧W.cell? ⟨w.heap.size,1,none⟩=some (.string x)∧W.cell? ⟨w.heap.size,2,none⟩=some kv∧W.cell? ⟨w.heap.size,3,none⟩=some wv∧W.cell? ⟨w.heap.size,4,none⟩=some pv∧W.cell? ⟨w.heap.size,5,none⟩=some av∧W.cell? ⟨w.heap.size,6,none⟩=some rv):=
  ⟨_,rfl,Lib.hid (below_one w _),Lib.hid (node_all w o x kv wv pv av rv t)⟩
def redirOps:List (List UInt8):= [[99,109,100],[105,102],[119,104,105,108,101],[117,110,116,105,108],[102,111,114],[99,97,115,101],[103,114,111,117,112],[115,117,98]]
def rredirsT (n:Nd):Bool:=if redirOps.contains n.op=true then n.redirs.all redirT else n.redirs.isEmpty
def rpatsT (n:Nd):Bool:=n.pats.all patT&&(n.pats.length==n.kids.length)
def rcmdT (n:Nd):Bool:=n.assigns.all assignT&&(commandT n&&n.words.all bareW)
theorem redir_ways {o:ByteArray} (h:redirOps.contains o.toList=true):((o.toList== [99,109,100])=true)∨((o.toList== [99,109,100])=false∧(o.toList== [105,102])=true)∨((o.toList== [99,109,100])=false∧(o.toList== [105,102])=false∧(o.toList== [119,104,105,108,101])=true)∨((o.toList== [99,109,100])=false∧(o.toList== [105,102])=false∧(o.toList== [119,104,105,108,101])=false∧(o.toList== [117,110,116,105,108])=true)∨((o.toList== [99,109,100])=false∧(o.toList== [105,102])=false∧(o.toList== [119,104,105,108,101])=false∧(o.toList== [117,110,116,105,108])=false∧(o.toList== [102,111,114])=true)∨((o.toList== [99,109,100])=false∧(o.toList== [105,102])=false∧(o.toList== [119,104,105,108,101])=false∧(o.toList== [117,110,116,105,108])=false∧(o.toList== [102,111,114])=false∧(o.toList== [99,97,115,101])=true)∨((o.toList== [99,109,100])=false∧(o.toList== [105,102])=false∧(o.toList== [119,104,105,108,101])=false∧(o.toList== [117,110,116,105,108])=false∧(o.toList== [102,111,114])=false∧(o.toList== [99,97,115,101])=false∧(o.toList== [103,114,111,117,112])=true)∨((o.toList== [99,109,100])=false∧(o.toList== [105,102])=false∧(o.toList== [119,104,105,108,101])=false∧(o.toList== [117,110,116,105,108])=false∧(o.toList== [102,111,114])=false∧(o.toList== [99,97,115,101])=false∧(o.toList== [103,114,111,117,112])=false∧(o.toList== [115,117,98])=true):=by
  generalize o.toList=l at h ⊢
  have:l= [99,109,100]∨l= [105,102]∨l= [119,104,105,108,101]∨l= [117,110,116,105,108]∨l= [102,111,114]∨l= [99,97,115,101]∨l= [103,114,111,117,112]∨l= [115,117,98]:=by simpa [redirOps]using h
  rcases this with rfl|rfl|rfl|rfl|rfl|rfl|rfl|rfl
  · exact(Or.inl (by decide))
  · exact(Or.inr (Or.inl (by decide)))
  · exact(Or.inr (Or.inr (Or.inl (by decide))))
  · exact(Or.inr (Or.inr (Or.inr (Or.inl (by decide)))))
  · exact(Or.inr (Or.inr (Or.inr (Or.inr (Or.inl (by decide))))))
  · exact(Or.inr (Or.inr (Or.inr (Or.inr (Or.inr (Or.inl (by decide)))))))
  · exact(Or.inr (Or.inr (Or.inr (Or.inr (Or.inr (Or.inr (Or.inl (by decide))))))))
  · exact(Or.inr (Or.inr (Or.inr (Or.inr (Or.inr (Or.inr (Or.inr (by decide))))))))
theorem redir_none {o:ByteArray} (h:redirOps.contains o.toList=false):(o.toList== [99,109,100])=false∧(o.toList== [105,102])=false∧(o.toList== [119,104,105,108,101])=false∧(o.toList== [117,110,116,105,108])=false∧(o.toList== [102,111,114])=false∧(o.toList== [99,97,115,101])=false∧(o.toList== [103,114,111,117,112])=false∧(o.toList== [115,117,98])=false:=by
  generalize o.toList=l at h ⊢
  simpa [redirOps]using h
set_option maxHeartbeats 1000000 in
set_option maxRecDepth 100000 in
theorem rredirs_loop (o x:ByteArray) (kp wp pp ap rp:Option Addr) (KL WL PL AL kc wc pc ac rc:Nat) (l:List (List UInt8×List Pt)) (w:World) (ho:redirOps.contains o.toList=true) (hv:AsAt w (.slice rp l.length rc) l) (hs:∀x∈l,Small x.2) (hT:Tabs w):
    Calls Tryz.prog 27 #[.agg #[.string o,.string x,.slice kp KL kc,.slice wp WL wc,.slice pp PL pc,.slice ap AL ac,.slice rp l.length rc]] w fun e w'=>e= .returned (.bool (l.all redirT))∧Below w.heap.size w w':=by
  have HV:=yH hv;have HS:=yH hs;have HT:=yH hT;have hfew:=hv.few;obtain⟨R,hR⟩:∃R,l.all redirT=R:=⟨_,rfl⟩;have HR:=yH hR;obtain⟨RL,hN⟩:∃N,l.length=N:=⟨_,rfl⟩;have HN:=yH hN;have hN0:(RL:Int)≤2^63-1:=(by unfold maxLen at hfew;omega);rw[hR];rw[hN]at HV ⊢;have HA:=yH (node_all w);have HBX:=yH (fun o=>below_one w o);have hc:=redir_ways ho;clear hv hs hR hN hfew hT ho
  rcases hc with q0|⟨q0,q1⟩|⟨q0,q1,q2⟩|⟨q0,q1,q2,q3⟩|⟨q0,q1,q2,q3,q4⟩|⟨q0,q1,q2,q3,q4,q5⟩|⟨q0,q1,q2,q3,q4,q5,q6⟩|⟨q0,q1,q2,q3,q4,q5,q6,q7⟩
  all_goals
    go_enter Tryz.func27,Tryz.ntmps27;go_wp2_with fail;obtain⟨w1,hw1⟩:∃w1,w.alloc (.cells #[.string o,.string x,.slice kp KL kc,.slice wp WL wc,.slice pp PL pc,.slice ap AL ac,.slice rp RL rc] 44)=w1:=⟨_,rfl⟩;have HB1:=yH (show Below w.heap.size w w1 by rw[←hw1];exact HBX.out _);have HNC:=yH (show ∀W,Below w1.heap.size w1 W→_ from by rw[←hw1];exact HA.out o x (.slice kp KL kc) (.slice wp WL wc) (.slice pp PL pc) (.slice ap AL ac) (.slice rp RL rc) 44);rw[hw1];clear hw1
    go_loopw [3] (fun i wr=> ∃j,j≤RL∧i= .int .i64 (j:Int)∧Below w1.heap.size w1 wr∧(l.drop j).all redirT=R) (fun i _=>RL-(intOf i).toNat)
    case atStart=>exact⟨0,by omega,rfl,Below.refl _ _,HR.out⟩
    case round=>
      obtain⟨j,hj,rfl,hb,hsd⟩:=hrel;obtain⟨n0,n1,n2,n3,n4,n5,n6⟩:=HNC.out wr hb
      by_cases hlt:j<RL
      · obtain⟨y,hy⟩:∃y,l[j]? =some y:=⟨_,List.getElem?_eq_getElem (by rw[HN.out];exact hlt)⟩
        obtain⟨bb,oo,rfl⟩:=SlAt.ptr HV.out hy;obtain⟨cs,⟨u,rfl,hu⟩,hcc⟩:=SlAt.cell HV.out rfl hy;have hj0:(j:Int)<(RL:Int):=(by omega);have HSX:=yH (HS.out y (List.mem_of_getElem? hy));rw[drop_get hy,List.all_cons]at hsd;have HB:=yH hb;have HW0:=yH (HB1.out.trans (hb.mono HB1.out.size));have HJ:=yH hlt
        have c0:wr.cell? ⟨bb,oo+j*2,none⟩=some (.string (T y.1)):=by
          have:=cell_below (hcc 0 _ rfl) HW0.out
          rwa [show oo+j*2+0=oo+j*2 by omega]at this
        have c1:wr.cell? ⟨bb,oo+j*2+1,none⟩=some u:=cell_below (hcc 1 _ rfl) HW0.out;obtain⟨up,uc,rfl, -, -⟩:=hu.is;have HE:=yH (fun oo=>ropen_any y.2 (.slice up y.2.length uc) (wr.alloc oo) (hu.stays (HW0.out.trans ((below_one wr oo).mono HW0.out.size))) HSX.out (HT.out.below (HW0.out.trans ((below_one wr oo).mono HW0.out.size))));unfold wordV at HE;obtain⟨ul,hul⟩:∃ul,y.2.length=ul:=⟨_,rfl⟩;obtain⟨P,hP⟩:∃P,bareW y.2=P:=⟨_,rfl⟩;have HRT:=yH (show((y.1== [60]||(y.1== [62]||y.1== [62,62]))&&P&&(l.drop (j+1)).all redirT)=R from by rw[←hP];exact hsd);rw[hP]at HE;rw[hul]at HE c1;obtain⟨s,hs⟩:∃s,T y.1=s:=⟨_,rfl⟩;have hsl:s.toList=y.1:=(by rw[←hs,Lib.toList_data]);rw[hs]at c0;rw[←hsl]at HRT;have HO:=yH (below_one wr);clear hul hP hs hsl hsd hb hlt hj hy hcc hu
        by_cases r1:(s.toList== [60])=true
        · have HRT:=yH (show(P&&(l.drop (j+1)).all redirT)=R from by have:=HRT.out;rwa [r1,Bool.true_or,Bool.true_and]at this)
          cases P
          · have HF:=yH (show false=R from HRT.out)
            go_wp2_with (go_at_call 31;refine(HE.out _).mono ?_;rintro e w2 ⟨rfl,hb2⟩;have HB2:=yH ((HO.out _).trans (hb2.mono (HO.out _).size));clear hb2)
            go_ret;exact⟨ret_bool HF.out,HW0.out.trans (HB2.out.mono HW0.out.size)⟩
          · have HF:=yH (show(l.drop (j+1)).all redirT=R from HRT.out)
            go_wp2_with (go_at_call 31;refine(HE.out _).mono ?_;rintro e w2 ⟨rfl,hb2⟩;have HB2:=yH ((HO.out _).trans (hb2.mono (HO.out _).size));clear hb2)
            exact⟨⟨j+1,by have:=HJ.out;omega,by go_num,HB.out.trans (HB2.out.mono HB.out.size),HF.out⟩,by have:=HJ.out;simp[intOf];omega⟩
        · replace r1:(s.toList== [60])=false:=by simpa using r1
          by_cases r2:(s.toList== [62])=true
          · have HRT:=yH (show(P&&(l.drop (j+1)).all redirT)=R from by have:=HRT.out;rwa [r1,r2,Bool.false_or,Bool.true_or,Bool.true_and]at this)
            cases P
            · have HF:=yH (show false=R from HRT.out)
              go_wp2_with (go_at_call 31;refine(HE.out _).mono ?_;rintro e w2 ⟨rfl,hb2⟩;have HB2:=yH ((HO.out _).trans (hb2.mono (HO.out _).size));clear hb2)
              go_ret;exact⟨ret_bool HF.out,HW0.out.trans (HB2.out.mono HW0.out.size)⟩
            · have HF:=yH (show(l.drop (j+1)).all redirT=R from HRT.out)
              go_wp2_with (go_at_call 31;refine(HE.out _).mono ?_;rintro e w2 ⟨rfl,hb2⟩;have HB2:=yH ((HO.out _).trans (hb2.mono (HO.out _).size));clear hb2)
              exact⟨⟨j+1,by have:=HJ.out;omega,by go_num,HB.out.trans (HB2.out.mono HB.out.size),HF.out⟩,by have:=HJ.out;simp[intOf];omega⟩
          · replace r2:(s.toList== [62])=false:=by simpa using r2
            by_cases r3:(s.toList== [62,62])=true
            · have HRT:=yH (show(P&&(l.drop (j+1)).all redirT)=R from by have:=HRT.out;rwa [r1,r2,r3,Bool.false_or,Bool.false_or,Bool.true_and]at this)
              cases P
              · have HF:=yH (show false=R from HRT.out)
                go_wp2_with (go_at_call 31;refine(HE.out _).mono ?_;rintro e w2 ⟨rfl,hb2⟩;have HB2:=yH ((HO.out _).trans (hb2.mono (HO.out _).size));clear hb2)
                go_ret;exact⟨ret_bool HF.out,HW0.out.trans (HB2.out.mono HW0.out.size)⟩
              · have HF:=yH (show(l.drop (j+1)).all redirT=R from HRT.out)
                go_wp2_with (go_at_call 31;refine(HE.out _).mono ?_;rintro e w2 ⟨rfl,hb2⟩;have HB2:=yH ((HO.out _).trans (hb2.mono (HO.out _).size));clear hb2)
                exact⟨⟨j+1,by have:=HJ.out;omega,by go_num,HB.out.trans (HB2.out.mono HB.out.size),HF.out⟩,by have:=HJ.out;simp[intOf];omega⟩
            · replace r3:(s.toList== [62,62])=false:=by simpa using r3
              have HF:=yH (show false=R from by have:=HRT.out;rwa [r1,r2,r3]at this);go_wp2_with fail;go_ret;exact⟨ret_bool HF.out,HW0.out.alloc HW0.out.size _⟩
      · obtain rfl:j=RL:=by omega
        have hj0:¬(j:Int)<(j:Int):=(by omega);rw[List.drop_of_length_le (by rw[HN.out];exact Nat.le_refl _)]at hsd;have HE:=yH (show true=R from hsd);have HB:=yH (HB1.out.trans (hb.mono HB1.out.size));clear hsd hb hlt hj;go_wp2_with fail;go_ret;exact⟨ret_bool HE.out,HB.out⟩
set_option maxHeartbeats 1000000 in
set_option maxRecDepth 100000 in
theorem rredirs_any (n:Nd) (kp wp pp ap rp:Option Addr) (kc wc pc ac rc:Nat) (w:World) (hr:AsAt w (.slice rp n.redirs.length rc) n.redirs) (hs:NSmall n) (hT:Tabs w):
    Calls Tryz.prog 27 #[NV n kp wp pp ap rp kc wc pc ac rc] w fun e w'=>e= .returned (.bool (rredirsT n))∧Below w.heap.size w w':=by
  have hol:(T n.op).toList=n.op:=by rw[Lib.toList_data]
  cases h:redirOps.contains n.op with
  |true=>
    rw[show rredirsT n=n.redirs.all redirT from by unfold rredirsT;rw[if_pos h]];exact rredirs_loop (T n.op) (T n.name) kp wp pp ap rp n.kids.length n.words.length n.pats.length n.assigns.length kc wc pc ac rc n.redirs w (by rw[hol];exact h) hr hs.redirs hT
  |false=>
    have HR:=yH (show rredirsT n=n.redirs.isEmpty from by unfold rredirsT;rw[h];rfl);rw[HR.out];have hE:=empty_len n.redirs;obtain⟨q0,q1,q2,q3,q4,q5,q6,q7⟩:=redir_none (o:=T n.op) (by rw[hol];exact h);have HBX:=yH (fun o=>below_one w o);show Calls _ _ #[.agg #[.string (T n.op),.string (T n.name),.slice kp n.kids.length kc,.slice wp n.words.length wc,.slice pp n.pats.length pc,.slice ap n.assigns.length ac,.slice rp n.redirs.length rc]] _ _
    generalize T n.op=o at*
    generalize T n.name=x
    generalize n.pats.length=PL
    generalize n.words.length=WL
    generalize n.assigns.length=AL
    obtain⟨RL,hRL⟩:∃RL,n.redirs.length=RL:=⟨_,rfl⟩;obtain⟨E,hEE⟩:∃E,n.redirs.isEmpty=E:=⟨_,rfl⟩;rw[hRL,hEE]at hE;rw[hRL,hEE]
    generalize n.kids.length=KL
    clear hRL hEE HR h hol hr hs hT
    cases E
    all_goals
      go_enter Tryz.func27,Tryz.ntmps27;go_wp2_with fail;go_ret;exact⟨rfl,HBX.out _⟩
end Go.Proofs.YtakceggnadagmaaGreatDoor
namespace Go.Proofs.YtakceggnadagmaaGreatDoor
open Go Go.RowKit GlyphMath LexMath TreeMath ShowMath
set_option maxHeartbeats 2000000 in
set_option maxRecDepth 100000 in
theorem rwords_text (l:List (List Pt)) (v:Value) (w:World) (hv:WsAt w v l) (hd:l.all (depS 22)=true) (hL:(wordsS l).length≤BigL+1):
    Calls Tryz.prog 66 #[v] w fun e w'=>e= .returned (.string (T (wordsS l)))∧Below w.heap.size w w':=by
  have hlen:=hv.few;obtain⟨⟨p,c,rfl,hat⟩, -⟩:=hv;have HP:=yH (fun (q:List Pt) (u:Value) (W:World) (hu:PsAt W u q) (hd:depS 22 q=true) (hl:(wordS q).length≤BigL)=>rword_text q u W hu hd hl);have HAT:=yH hat;have HD:=yH (show ∀q∈l,depS 22 q=true from fun q hq=>List.all_eq_true.1 hd q hq);obtain⟨R,hRR⟩:∃R,wordsS l=R:=⟨_,rfl⟩;rw[hRR]at hL ⊢;have HR:=yH (show([]:List UInt8)++wordsS (l.drop 0)=R from hRR);have HL:=yH hL;obtain⟨N,hN⟩:∃N,l.length=N:=⟨_,rfl⟩;have HN:=yH hN;have hN0:(N:Int)≤2^63-1:=(by unfold maxLen at hlen;omega);rw[hN];clear hRR hd hlen hat hN hL;go_enter Tryz.func66,Tryz.ntmps66;go_wp2_with fail
  go_loopw [3,4] (fun v i wr=> ∃(j:Nat) (a:List UInt8),v= .string (T a)∧i= .int .i64 (j:Int)∧j≤N∧Below w.heap.size w wr∧a++wordsS (l.drop j)=R) (fun _ i _=>N-(intOf i).toNat)
  case atStart=>exact⟨0,[],rfl,rfl,by omega,Below.refl _ _,HR.out⟩
  case round=>
    obtain⟨j,a,rfl,rfl,hj,hb,hr⟩:=hrel;have hL:=HL.out;unfold BigL at hL;obtain⟨A,hA⟩:∃A,T a=A:=⟨_,rfl⟩;rw[hA]
    by_cases hlt:j<N
    · obtain⟨q,hq⟩:∃x,l[j]? =some x:=⟨_,List.getElem?_eq_getElem (by rw[HN.out];exact hlt)⟩
      obtain⟨cs,hsp,u,rfl,hu⟩:=HAT.out j q hq;have hsp:=hsp.below hb;have hu:=hu.stays hb;obtain⟨b,o,rfl,hc⟩:=hsp;have c0:=hc 0 _ rfl;rw[Nat.add_zero,Nat.mul_one]at c0;rw[drop_get hq]at hr;have e:wordsS (q::l.drop (j+1))= [32]++wordS q++wordsS (l.drop (j+1)):=(by unfold wordsS;rw[List.map_cons,List.flatten_cons]);rw[e]at hr;have hl:=congrArg List.length hr;simp only[List.length_append,List.length_singleton]at hl;have HC:=yH (HP.out q u wr hu (HD.out q (List.mem_of_getElem? hq)) (by unfold BigL;omega));have HRR:=yH (show(a++ [32]++wordS q)++wordsS (l.drop (j+1))=R from by rw[←hr];simp only[List.append_assoc]);have hAz:A.size≤1152921504606846976:=(by rw[←hA,T_size];omega);have hrz:(T (wordS q)).size≤1152921504606846976:=(by rw[T_size];omega);have HQ:=yH (show A++⟨#[32]⟩++T (wordS q)=T (a++ [32]++wordS q)from by rw[T_append,T_append,hA]);obtain⟨r,hrr⟩:∃r,T (wordS q)=r:=⟨_,rfl⟩;rw[hrr]at HC hrz HQ;have s1:¬(9223372036854775807:Int)<(A.size:Int)+1:=(by omega);have s2:¬(9223372036854775807:Int)<(A.size:Int)+1+(r.size:Int):=(by omega);have hj0:(j:Int)<(N:Int):=(by omega);have HB:=yH hb;have HJ:=yH hlt;clear hc hr hl hb hlt hj hq hu hrr hA hL e;unfold wordV at HC
      go_wp2_with (go_at_call 65;refine HC.out.mono ?_;rintro e w2 ⟨rfl,hb2⟩;have HB2:=yH hb2;clear hb2)
      exact⟨⟨j+1,_,by rw[HQ.out],by simp,HJ.out,HB.out.trans (HB2.out.mono HB.out.size),HRR.out⟩,by have:=HJ.out;simp[intOf];omega⟩
    · obtain rfl:j=N:=by omega
      have hd:l.drop j= []:=List.drop_of_length_le (by rw[HN.out];exact Nat.le_refl _);rw[hd,show wordsS []= []from rfl,List.append_nil]at hr;have hj0:¬(j:Int)<(j:Int):=(by omega);have HQ:=yH (show A=T R from by rw[←hr,hA]);have HB:=yH hb;clear hr hd hj hlt hA hb hL;go_wp2_with fail;go_ret;exact⟨by rw[←HQ.out];rfl,HB.out⟩
set_option maxHeartbeats 4000000 in
set_option maxRecDepth 100000 in
theorem rredirs_text (o x:ByteArray) (kp wp pp ap rp:Option Addr) (KL WL PL AL kc wc pc ac rc:Nat) (l:List (List UInt8×List Pt)) (w:World) (hv:AsAt w (.slice rp l.length rc) l) (hd:l.all (fun a=>depS 22 a.2)=true) (hL:(redirsS l).length≤BigL+1):
    Calls Tryz.prog 38 #[.agg #[.string o,.string x,.slice kp KL kc,.slice wp WL wc,.slice pp PL pc,.slice ap AL ac,.slice rp l.length rc]] w fun e w'=>e= .returned (.string (T (redirsS l)))∧Below w.heap.size w w':=by
  have hlen:=hv.few;have HV:=yH hv;have HP:=yH (fun (q:List Pt) (u:Value) (W:World) (hu:PsAt W u q) (hd:depS 22 q=true) (hl:(wordS q).length≤BigL)=>rword_text q u W hu hd hl);have HD:=yH (show ∀q∈l,depS 22 q.2=true from fun q hq=>List.all_eq_true.1 hd q hq);obtain⟨R,hRR⟩:∃R,redirsS l=R:=⟨_,rfl⟩;rw[hRR]at hL ⊢;have HR:=yH (show([]:List UInt8)++redirsS (l.drop 0)=R from hRR);have HL:=yH hL;obtain⟨N,hN⟩:∃N,l.length=N:=⟨_,rfl⟩;have HN:=yH hN;have hN0:(N:Int)≤2^63-1:=(by unfold maxLen at hlen;omega);rw[hN]at HV ⊢;have HA:=yH (node_all w);have HBX:=yH (fun o=>below_one w o);clear hRR hd hlen hN hL hv;go_enter Tryz.func38,Tryz.ntmps38;go_wp2_with fail;obtain⟨w1,hw1⟩:∃w1,w.alloc (.cells #[.string o,.string x,.slice kp KL kc,.slice wp WL wc,.slice pp PL pc,.slice ap AL ac,.slice rp N rc] 44)=w1:=⟨_,rfl⟩;have HB1:=yH (show Below w.heap.size w w1 by rw[←hw1];exact HBX.out _);have HNC:=yH (show ∀W,Below w1.heap.size w1 W→_ from by rw[←hw1];exact HA.out o x (.slice kp KL kc) (.slice wp WL wc) (.slice pp PL pc) (.slice ap AL ac) (.slice rp N rc) 44);rw[hw1];clear hw1
  go_loopw [3,4] (fun v i wr=> ∃(j:Nat) (a:List UInt8),v= .string (T a)∧i= .int .i64 (j:Int)∧j≤N∧Below w1.heap.size w1 wr∧a++redirsS (l.drop j)=R) (fun _ i _=>N-(intOf i).toNat)
  case atStart=>exact⟨0,[],rfl,rfl,by omega,Below.refl _ _,HR.out⟩
  case round=>
    obtain⟨j,a,rfl,rfl,hj,hb,hr⟩:=hrel;obtain⟨-, -, -, -, -, -,n6⟩:=HNC.out wr hb;have hL:=HL.out;unfold BigL at hL;obtain⟨A,hA⟩:∃A,T a=A:=⟨_,rfl⟩;rw[hA]
    by_cases hlt:j<N
    · obtain⟨q,hq⟩:∃x,l[j]? =some x:=⟨_,List.getElem?_eq_getElem (by rw[HN.out];exact hlt)⟩
      obtain⟨rb,ro,rfl⟩:=SlAt.ptr HV.out hq;obtain⟨cs,⟨u,rfl,hu⟩,hcc⟩:=SlAt.cell HV.out rfl hq;have HW0:=yH (HB1.out.trans (hb.mono HB1.out.size));have r0:=cell_below (hcc 0 _ rfl) HW0.out;have r1:=cell_below (hcc 1 _ rfl) HW0.out;rw[Nat.add_zero]at r0;rw[drop_get hq]at hr;have e:redirsS (q::l.drop (j+1))= [32]++q.1++ [32]++wordS q.2++redirsS (l.drop (j+1)):=(by unfold redirsS;rw[List.map_cons,List.flatten_cons]);rw[e]at hr;have hl:=congrArg List.length hr;simp only[List.length_append,List.length_singleton]at hl;have HC:=yH (fun n=>HP.out q.2 u (wr.drewN n) (hu.stays (show Below w.heap.size w (wr.drewN n)from ⟨HW0.out.os,HW0.out.tape,HW0.out.output,HW0.out.size,HW0.out.block⟩)) (HD.out q (List.mem_of_getElem? hq)) (by unfold BigL;omega));have HRR:=yH (show(a++ [32]++q.1++ [32]++wordS q.2)++redirsS (l.drop (j+1))=R from by rw[←hr];simp only[List.append_assoc]);have hAz:A.size≤1152921504606846976:=(by rw[←hA,T_size];omega);have htz:(T q.1).size≤1152921504606846976:=(by rw[T_size];omega);have hrz:(T (wordS q.2)).size≤1152921504606846976:=(by rw[T_size];omega);have HQ:=yH (show A++⟨#[32]⟩++T q.1++⟨#[32]⟩++T (wordS q.2)=T (a++ [32]++q.1++ [32]++wordS q.2)from by simp only[T_append,hA]);unfold txt at r0;obtain⟨r,hrr⟩:∃r,T (wordS q.2)=r:=⟨_,rfl⟩;obtain⟨to,hto⟩:∃to,T q.1=to:=⟨_,rfl⟩;rw[hrr]at HC hrz HQ;rw[hto]at htz HQ;replace r0:wr.cell? ⟨rb,ro+j*2,none⟩=some (.string to):=(by rw[←hto];exact r0);have s1:¬9223372036854775807<A.size+1:=(by omega);have s2:¬9223372036854775807<A.size+1+to.size:=(by omega);have s3:¬9223372036854775807<A.size+1+to.size+1:=(by omega);have s4:¬9223372036854775807<A.size+1+to.size+1+r.size:=(by omega);have hj0:(j:Int)<(N:Int):=(by omega);have HB:=yH hb;have HJ:=yH hlt;have HW1:=yH (HP.out);clear hcc hr hl hb hlt hj hq hu hrr hto hA hL e HW1;unfold wordV at HC;go_wp2_with fail;have d6:=(show wr.drew.cell? _=_ from n6);have d0:=(show wr.drew.cell? _=_ from r0);have d1:=(show wr.drew.cell? _=_ from r1)
      go_region_held (fun W=>W.cell? ⟨w.heap.size,6,none⟩=some (.slice (some ⟨rb,ro,none⟩) N rc)∧W.cell? ⟨rb,ro+j*2,none⟩=some (.string to)∧W.cell? ⟨rb,ro+j*2+1,none⟩=some u) (first|exact⟨d6,d0,d1⟩|exact⟨n6,r0,r1⟩|assumption|exact S2.out) ((go_at_call 65;refine(HC.out 1).mono ?_;rintro e w2 ⟨rfl,hb2⟩;have hb2:Below wr.heap.size wr w2:=⟨hb2.os,hb2.tape,hb2.output,hb2.size,hb2.block⟩;have S2:=yH (show w2.cell? ⟨w.heap.size,6,none⟩=some (.slice (some ⟨rb,ro,none⟩) N rc)∧w2.cell? ⟨rb,ro+j*2,none⟩=some (.string to)∧w2.cell? ⟨rb,ro+j*2+1,none⟩=some u from⟨cell_below n6 hb2,cell_below r0 hb2,cell_below r1 hb2⟩);have HB2:=yH hb2;clear hb2))
      go_wp2_with fail;exact⟨⟨j+1,_,by rw[HQ.out],by simp,HJ.out,HB.out.trans (HB2.out.mono HB.out.size),HRR.out⟩,by have:=HJ.out;simp[intOf];omega⟩
    · obtain rfl:j=N:=by omega
      have hd:l.drop j= []:=List.drop_of_length_le (by rw[HN.out];exact Nat.le_refl _);rw[hd,show redirsS []= []from rfl,List.append_nil]at hr;have hj0:¬(j:Int)<(j:Int):=(by omega);have HQ:=yH (show A=T R from by rw[←hr,hA]);have HB:=yH hb;clear hr hd hj hlt hA hb hL;go_wp2_with fail;go_ret;exact⟨by rw[←HQ.out];rfl,HB1.out.trans (HB.out.mono HB1.out.size)⟩
end Go.Proofs.YtakceggnadagmaaGreatDoor
