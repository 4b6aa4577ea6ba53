/-
  Proved: contracts of functions, plain facts. Conditions: as each says.
-/
import Derived.Test.YtcpmjkefbjbhpaaGreatDoorSw21
import Derived.Test.YtcpmjkefbjbhpaaGreatDoorRexRow
import Derived.Deep.RegionHeld
namespace Go.Proofs.YtcpmjkefbjbhpaaGreatDoor
open Go Go.RowKit GlyphMath LexMath
theorem rne {r k:Nat} (h:r≠k):((r:Int)==(k:Int))=false:=by
  have:¬(r:Int)=(k:Int):=by omega
  simpa using this
theorem eq_of_fbn {ys:List Nat} {k:Nat} (hk:0<k∧k<128) (hg:∀x∈ys,GoodL x) (h:fbn ys=k):∃r,ys=k::r:=by
  have:=(fbn_iff hg hk.2).1 h
  cases ys with
  |nil=>simp[next]at this;omega
  |cons c r=>exact⟨r,by rw[show c=k from this]⟩
theorem reckonN_is {b:Nat} (h1:b≠40) (h2:b≠41):reckonN b=reckons b:=by
  unfold reckonN reckons
  cases moreR (b:Int)
  · refine bool_iff ?_
    simp;omega
  · rfl
theorem reckons_low {b:Nat} (h:reckons b=true):b<128:=by
  apply Classical.byContradiction;intro hx;rw[reckons_high (by omega)]at h
  cases h
theorem arith_open {r:List Nat} {n:Nat} {acc:List Nat} :arithM (40::r) n acc=arithM r (n+1) (acc++ [40]):=by
  rw[arithM,if_neg (by omega),if_pos (by decide),if_pos rfl]
theorem arith_shut {r:List Nat} {n:Nat} {acc:List Nat} :arithM (41::r) (n+1) acc=arithM r n (acc++ [41]):=by
  rw[arithM,if_neg (by omega),if_pos (by decide),if_neg (by omega),if_pos rfl];rfl
theorem rarith_end {r:List Nat} {acc:List Nat} :arithM (41::r) 0 acc=if next r=41 then .ok (acc,r.tail)else .error 2:=by
  rw[arithM,if_pos ⟨rfl,rfl⟩]
theorem arith_mere {c:Nat} {r:List Nat} {n:Nat} {acc:List Nat} (h1:c≠40) (h2:c≠41) (h:reckons c=true):arithM (c::r) n acc=arithM r n (acc++ [c]):=by
  rw[arithM,if_neg (by omega),if_pos h,if_neg h1,if_neg h2]
theorem rarith_bad {ys:List Nat} {n:Nat} {acc:List Nat} (h2:next ys≠41) (h:reckons (next ys)=false):arithM ys n acc= .error 2:=by
  cases ys with
  |nil=>rfl
  |cons c r=>rw[arithM,if_neg (fun e=>h2 e.2),if_neg (by rw[show reckons c=false from h];decide)]
structure RArAt (w wr:World) (X:Nat) (s:ByteArray) (xs:List Nat) (M:Res (List Nat)) (j n:Nat) (ys acc:List Nat):Prop where
  lx:Lx wr X s (j:Int) 0
  pos:Pos s j ys
  cut:xs=acc++ys
  said:arithM ys n acc=M
  few:n≤acc.length
  kept:Kept (fun k=>k=X) w wr
theorem RArAt.next {w wr w':World} {X:Nat} {s:ByteArray} {xs:List Nat} {M:Res (List Nat)} {j n n' c:Nat} {r acc:List Nat} (h:RArAt w wr X s xs M j n (c::r) acc) (hc:c<128) (hm:arithM r n' (acc++ [c])=M) (hn:n'≤n+1) (m:Nat)
    (hw:w'=(wr.drewN m).setCell ⟨X,1,none⟩ (.int .i64 ((j:Int)+1))):RArAt w w' X s xs M (j+1) n' r (acc++ [c])∧toEnd w' X s.size<toEnd wr X s.size:=by
  subst hw;have hp2:=h.pos.fbn1 hc;have hl2:Lx ((wr.drewN m).setCell ⟨X,1,none⟩ (.int .i64 ((j:Int)+1))) X s ((j+1:Nat):Int) 0:=(h.lx.drewN m).put1 _;refine⟨⟨hl2,hp2,by rw[h.cut];simp,hm,by have:=h.few;simp;omega,Kept.setCell (D:=fun k=>k=X) (h.kept.drewN m) (.inl rfl) _⟩,?_⟩;rw[hl2.toEnd,h.lx.toEnd];have:=hp2.le;simp only[Int.toNat_natCast];omega
set_option maxHeartbeats 2000000 in
theorem rarith_any {w:World} {X:Nat} {s:ByteArray} {xs:List Nat} (h:LexAt w X s xs) (hs:s.size≤2000):
    Calls Tryz.prog 129 #[.pointer (some ⟨X,0,none⟩)] w fun e w'=>StrEnd w w' e X s (arithM xs 0 []):=by
  obtain⟨M,hM⟩:∃M,arithM xs 0 []=M:=⟨_,rfl⟩;rw[hM];obtain⟨i,hl,hp⟩:=h;have c1:=hl.c1;have HH:=yH (show RArAt w w X s xs M i 0 xs []from ⟨hl,hp,rfl,hM,Nat.le_refl _,Kept.refl _ _⟩);have HP:=yH hp;have HS:=yH hs;have hi0:(0:Int)≤(i:Int):=(by omega);clear hl hp hs hM;go_enter Tryz.func129,Tryz.ntmps129;go_wp2_with fail
  go_loopw [4] (fun d wr=> ∃(j n:Nat) (ys acc:List Nat),d= .int .i64 (n:Int)∧RArAt w wr X s xs M j n ys acc) (fun _ wr=>toEnd wr X s.size)
  case atStart=>exact⟨i,0,xs,[],rfl,HH.out⟩
  case round=>
    obtain⟨j,n,ys,acc,rfl,hA⟩:=hrel;have HA:=yH hA;have hjs:=hA.pos.le;have hsz:=HS.out;have hcut:=hA.pos.len;have hcut2:=HP.out.len;rw[hA.cut,enc_append,List.length_append]at hcut2;have hacc:=(enc_length acc).1;have HAT:=yH (rat_any hA.lx 0 (by omega));rw[Nat.add_zero,hA.pos.fbn]at HAT;have HAT1:=yH (fun m=>rat_any (hA.lx.drewN m) 1 (by omega));have c1:=hA.lx.c1;have f1:=hA.lx.fz 1;have c0:=hA.lx.c0;obtain⟨b,hb⟩:∃b,fbn ys=b:=⟨_,rfl⟩;rw[hb]at HAT;have hb2:b<256:=(by rw[←hb];exact fbn_lt hA.pos.good);have hj2:(j:Int)≤2000:=(by omega);have hn2:(n:Int)≤2000:=(by have:=hA.few;omega);have HB:=yH hb
    by_cases h40:b=40
    · obtain⟨r,rfl⟩:=eq_of_fbn (by decide) hA.pos.good (hb.trans h40)
      subst h40;have hm:=hA.said;rw[arith_open]at hm;have HM:=yH hm;clear hb hb2 hA hjs hsz hcut hcut2 hacc hm HAT1
      go_wp2_with (go_at_call 85;refine HAT.out.mono ?_;rintro e w1 ⟨rfl,m1,rfl⟩)
      obtain⟨k1,k2⟩:=HA.out.next (by decide) HM.out (Nat.le_refl _) m1 rfl;exact⟨⟨j+1,n+1,r,_,by simp,k1⟩,k2⟩
    · have y40:((b:Int)==40)=false:=rne h40
      by_cases h41:b=41
      · obtain⟨r,rfl⟩:=eq_of_fbn (by decide) hA.pos.good (hb.trans h41)
        subst h41
        cases n with
        |succ n=>
          have hm:=hA.said;rw[arith_shut]at hm;have HM:=yH hm;have hn0:(0:Int)<(n:Int)+1:=(by omega);clear hb hb2 hA hjs hsz hcut hcut2 hacc hm HAT1
          go_wp2_with (go_at_call 85;refine HAT.out.mono ?_;rintro e w1 ⟨rfl,m1,rfl⟩)
          obtain⟨k1,k2⟩:=HA.out.next (by decide) HM.out (by omega) m1 rfl;exact⟨⟨j+1,n,r,_,by simp,k1⟩,k2⟩
        |zero=>
          have hm:=hA.said;rw[rarith_end]at hm;have hp2:=hA.pos.fbn1 (by decide);rw[hp2.fbn]at HAT1;have hiff:=fbn_iff hp2.good (k:=41) (by decide);obtain⟨b1,hb1⟩:∃b1,fbn r=b1:=⟨_,rfl⟩;rw[hb1]at HAT1 hiff
          by_cases h1:b1=41
          · obtain⟨r2,rfl⟩:=eq_of_fbn (by decide) hp2.good (hb1.trans h1)
            subst h1;have hm2:Except.ok (acc,r2)=M:=hm;have HM:=yH hm2;have hp3:=hp2.fbn1 (by decide);have HP3:=yH hp3;have hex:=Pos.extract (s:=s) (i:=i) (p:=acc) (r:=41::41::r2) (by rw[←hA.cut];exact HP.out);have hl3:=HP.out.len;rw[hA.cut,enc_append,List.length_append]at hl3;have hij:(i:Int)≤(j:Int):=(by omega);have hjn:(j:Int)≤(s.size:Int):=(by omega)
            have hsl:∀W,(Instr.slice 9 (.string s) (some (.int .i64 (i:Int))) (some (.int .i64 (j:Int))) none).run Tryz.prog W= .ok (txt (enc acc)) W:=fun W=>by
              rw[run_slice_string W 9 s .i64 .i64 _ _ Tryz.underlying9 hi0 hij hjn,show(i:Int).toNat=i by omega,show(j:Int).toNat=i+(enc acc).length by omega,hex];rfl
            obtain⟨gs,hgs⟩:∃gs:ByteArray,txt (enc acc)= .string gs:=⟨_,rfl⟩;rw[hgs]at hsl;have HGS:=yH hgs;have e2:IntKind.i64.wrap (j:Int)=(j:Int):=IntWalk.i64_in _ ⟨by omega,by omega⟩;clear hb hb2 hA hjs hsz hcut hcut2 hacc hm hm2 hp2 hp3 hiff hb1 hex hl3 hij hjn hgs hi0;go_wp2_with fail;refine HAT.out.mono ?_;rintro e w1 ⟨rfl,m1,rfl⟩;go_wp2_with fail;refine(HAT1.out _).mono ?_;rintro e w2 ⟨rfl,m2,rfl⟩;go_wp2_with fail
            go_quiet (fail)
            go_wp2_with fail;go_ret;rw[←HM.out]
            exact⟨by rw[HGS.out];rfl,⟨j+1+1,by
              rw[show ((j+1+1:Nat):Int)=(j:Int)+2 by omega]
              exact((HA.out.lx.drewN (m1+m2)).put1 ((j:Int)+2)).drewN _,HP3.out⟩,(Kept.setCell (D:=fun k=>k=X) (HA.out.kept.drewN (m1+m2)) (.inl rfl) _).drewN _⟩
          · have hm2:Except.error 2=M:=by rw[←hm,if_neg fun e=>h1 (hiff.2 e)]
            have HM:=yH hm2;have y41:((b1:Int)==41)=false:=rne h1;have hrk:reckonN 41=false:=(by decide);have HF:=yH (fun m=>rfail_no (HA.out.lx.drewN m) 2);clear hb hb2 hA hjs hsz hcut hcut2 hacc hm hm2 hp2 hiff hb1 h1 hi0;go_wp2_with fail;refine HAT.out.mono ?_;rintro e w1 ⟨rfl,m1,rfl⟩;go_wp2_with fail;refine(HAT1.out _).mono ?_;rintro e w2 ⟨rfl,m2,rfl⟩;go_wp2_with fail;refine(rreckon_any 41 (by decide) _).mono ?_;rintro e w3 ⟨rfl,rfl⟩;rw[hrk];go_wp2_with fail;refine(HF.out _).mono ?_;rintro e w4 ⟨rfl,hl4,hk4⟩;have H4:=yH (And.intro hl4 hk4);clear hl4 hk4;go_wp2_with fail;go_ret;rw[←HM.out];exact⟨⟨_,rfl⟩,⟨.inl rfl,_,H4.out.1⟩,(HA.out.kept.drewN _).on H4.out.2⟩
      · have y41:((b:Int)==41)=false:=rne h41
        have hrk:=reckonN_is h40 h41;have hrf:=reckons_fbn hA.pos.good;rw[hb]at hrf
        cases hR:reckons b with
        |true=>
          have hbl:=reckons_low hR;rw[hR]at hrk
          cases ys with
          |nil=>rw[show fbn []=0 from rfl]at hb;subst hb;exact absurd hR (by decide)
          |cons c r=>
            have hcb:c=b:=by
              rcases fbn_low hA.pos.good with e|⟨e1, -⟩
              · rw[hb]at e;exact e.symm
              · omega
            subst hcb;have hm:=hA.said;rw[arith_mere h40 h41 hR]at hm;have HM:=yH (And.intro hm hbl);clear hb hA hjs hsz hcut hcut2 hacc hm HAT1 hrf hbl h40 h41 hR
            go_wp2_with (first
              |(go_at_call 85;refine HAT.out.mono ?_;rintro e w1 ⟨rfl,m1,rfl⟩)
              |(go_at_call 121;refine(rreckon_any c hb2 _).mono ?_;rintro e w3 ⟨rfl,rfl⟩;rw[hrk]))
            obtain⟨k1,k2⟩:=HA.out.next HM.out.2 HM.out.1 (by omega) m1 rfl;exact⟨⟨j+1,n,r,_,by simp,k1⟩,k2⟩
        |false=>
          rw[hR]at hrk hrf;have hm:=hA.said;rw[rarith_bad (fun e=>h41 (by rw[←hb];exact(fbn_iff hA.pos.good (by decide)).2 e)) hrf.symm]at hm;have HM:=yH hm;have HF:=yH (fun m1=>rfail_no (HA.out.lx.drewN m1) 2);clear hb hA hjs hsz hcut hcut2 hacc hm HAT1 hrf h40 h41 hR hi0
          go_wp2_with (first
            |(go_at_call 85;refine HAT.out.mono ?_;rintro e w1 ⟨rfl,m1,rfl⟩)
            |(go_at_call 121;refine(rreckon_any b hb2 _).mono ?_;rintro e w3 ⟨rfl,rfl⟩;rw[hrk]))
          refine(HF.out _).mono ?_;rintro e w4 ⟨rfl,hl4,hk4⟩;have H4:=yH (And.intro hl4 hk4);clear hl4 hk4;go_wp2_with fail;go_ret;rw[←HM.out];exact⟨⟨_,rfl⟩,⟨.inl rfl,_,H4.out.1⟩,(HA.out.kept.drewN _).on H4.out.2⟩
structure PIn (w:World) (X:Nat) (s:ByteArray) (B:Nat) (v:Value) (xs:List Nat) (ps:List Pt):Prop where
  lex:LexAt w X s xs
  row:Prt w B v ps
  hX:X<B
  hB:B≤w.heap.size
def PrtEnd (w w':World) (e:Ending) (X:Nat) (s:ByteArray) (B:Nat) (m:Res (List Pt)):Prop:=
  match m with
  | .ok (ps,r)=> ∃v,e= .returned v∧LexAt w' X s r∧Prt w' B v ps∧Kept (fun k=>k=X∨B≤k) w w'
  | .error c=>(∃a n k,e= .returned (.slice a n k))∧LexErr w' X s c∧Kept (fun k=>k=X∨B≤k) w w'
theorem Kept.wideX {X B:Nat} {w w':World} (h:Kept (fun k=>k=X) w w'):Kept (fun k=>k=X∨B≤k) w w':=h.mono fun _ _ h=> .inl h
theorem Kept.wideP {X B:Nat} {w w':World} (h:Kept (fun k=>B≤k) w w'):Kept (fun k=>k=X∨B≤k) w w':=h.mono fun _ _ h=> .inr h
theorem Prt.keptX {w w':World} {X B:Nat} {v:Value} {ps:List Pt} (h:Prt w B v ps) (hk:Kept (fun k=>k=X) w w') (hX:X<B):Prt w' B v ps:=h.kept hk fun k h1 _ e=>by omega
theorem Prt.drew {w:World} {B:Nat} {v:Value} {ps:List Pt} (h:Prt w B v ps):Prt w.drew B v ps:=h.kept ((Kept.refl (fun _=>False) w).drew) fun _ _ _ h=>h
theorem LexAt.drew {w:World} {X:Nat} {s:ByteArray} {xs:List Nat} (h:LexAt w X s xs):LexAt w.drew X s xs:=h.kept ((Kept.refl (fun _=>False) w).drew) fun _ _ h=>h
theorem LexAt.keptB {w w':World} {X B:Nat} {s:ByteArray} {xs:List Nat} (h:LexAt w X s xs) (hk:Kept (fun k=>B≤k) w w') (hX:X<B):LexAt w' X s xs:=h.kept hk (fun k _=>by omega)
theorem PIn.step {w w':World} {X B:Nat} {s:ByteArray} {v:Value} {xs ys:List Nat} {ps:List Pt} (h:PIn w X s B v xs ps) (hl:LexAt w' X s ys) (hk:Kept (fun k=>k=X) w w'):PIn w' X s B v ys ps:=
  ⟨hl,h.row.keptX hk h.hX,h.hX,Nat.le_trans h.hB hk.size⟩
theorem PIn.put {w w':World} {X B:Nat} {s:ByteArray} {v v':Value} {xs:List Nat} {ps qs:List Pt} (h:PIn w X s B v xs ps) (hr:Prt w' B v' qs) (hk:Kept (fun k=>B≤k) w w'):PIn w' X s B v' xs qs:=
  ⟨h.lex.keptB hk h.hX,hr,h.hX,Nat.le_trans h.hB hk.size⟩
set_option maxHeartbeats 1000000 in
theorem rsingle_any {w:World} {X B:Nat} {s:ByteArray} {v:Value} {r:List Nat} {ps:List Pt} (h:PIn w X s B v (39::r) ps) (hs:s.size≤2000) (hf:Fits (39::r) ps):
    Calls Tryz.prog 86 #[.pointer (some ⟨X,0,none⟩),v] w fun e w'=>PrtEnd w w' e X s B (singleM (39::r) ps):=by
  obtain⟨a0,c0v,hv⟩:=h.row.shape;have HIN:=yH h;obtain⟨i,hl,hp⟩:=h.lex;have hp1:=hp.fbn1 (by decide);have c1:=hl.c1;have f1:=hl.fz 1;have HRUN:=yH (fun j hj=>hp1.run (k:=39) (by decide) j hj);have hend:=hp1.run_end (fun r=>r==39);have hex:=Pos.extract (s:=s) (i:=i+1) (p:=got (fun r=>r==39) r) (r:=left (fun r=>r==39) r) (by rw[got_left];exact hp1);have hle:=hend.le;have hhead:=left_head (fun r=>r==39) r;obtain⟨L,hL⟩:∃L,(enc (got (fun r=>r==39) r)).length=L:=⟨_,rfl⟩;rw[hL]at HRUN hend hex hle;have hi2:(i:Int)+1+(L:Int)≤(s.size:Int):=(by omega);have hs2:(s.size:Int)≤2000:=(by omega);have hi0:(0:Int)≤(i:Int):=(by omega);have HL:=yH (show Lx (w.setCell ⟨X,1,none⟩ (.int .i64 ((i:Int)+1))) X s ((i+1+0:Nat):Int) 0 from hl.put1 _);have HK:=yH (Kept.setCell (D:=fun k=>k=X) (Kept.refl _ w) (p:=⟨X,1,none⟩) (.inl rfl) (.int .i64 ((i:Int)+1)));have HE:=yH (And.intro hend (And.intro hex (And.intro hle (And.intro hhead hL))));have HSI:=yH hs;have HF:=yH hf;obtain⟨M,hM⟩:∃M,singleM (39::r) ps=M:=⟨_,rfl⟩;rw[hM];have HM:=yH hM;clear h hl hp hp1 hend hex hle hhead hL hs hM hf;subst hv;go_enter Tryz.func86,Tryz.ntmps86;go_wp2_with fail
  go_loopw [] (fun wr=> ∃(k:Nat),Lx wr X s ((i+1+k:Nat):Int) 0∧k≤L∧Kept (fun k=>k=X) w wr) (fun wr=>toEnd wr X s.size)
  case atStart=>exact⟨0,HL.out,Nat.zero_le _,HK.out⟩
  case round=>
    obtain⟨k,hl,hkL,hk⟩:=hrel;have hsz:=HSI.out;have HAT:=yH (fun m=>rat_any (hl.drewN m) 0 (by omega));rw[Nat.add_zero]at HAT;have c1:=hl.c1;have f1:=hl.fz 1;have c0:=hl.c0;have HH:=yH (And.intro hl (And.intro hkL hk));obtain⟨b,hb⟩:∃b,byteAt s (i+1+k)=b:=⟨_,rfl⟩;rw[hb]at HAT
    by_cases hlt:k<L
    · obtain⟨g1,g2,g3⟩:=HRUN.out k hlt
      rw[hb]at g1 g2;have y1:((b:Int)==39)=false:=rne g1;have y2:((b:Int)==0)=false:=rne g2;have HG:=yH (And.intro hlt g3);have hj2:((i+1+k:Nat):Int)≤2000:=(by omega);obtain⟨j,hj⟩:∃j:Nat,i+1+k=j:=⟨_,rfl⟩;rw[hj]at c1 hj2;have HJ:=yH hj;clear hl hkL hk hsz hb hlt g1 g2 g3 hi2 hj;go_wp2_with fail;refine(HAT.out 0).mono ?_;rintro e w1 ⟨rfl,m1,rfl⟩;go_wp2_with fail;refine(HAT.out _).mono ?_;rintro e w2 ⟨rfl,m2,rfl⟩;go_wp2_with fail
      have hl2:Lx ((wr.drewN (m1+m2)).setCell ⟨X,1,none⟩ (.int .i64 ((j:Int)+1))) X s ((i+1+(k+1):Nat):Int) 0:=by
        have h1:=(HH.out.1.drewN (m1+m2)).put1 ((j:Int)+1);rw[show ((i+1+(k+1):Nat):Int)=(j:Int)+1 by have:=HJ.out;omega];exact h1
      refine⟨⟨k+1,hl2,HG.out.1,Kept.setCell (D:=fun k=>k=X) (HH.out.2.2.drewN _) (.inl rfl) _⟩,?_⟩;rw[hl2.toEnd,HH.out.1.toEnd];have:=HG.out.2;omega
    · obtain rfl:k=L:=by omega
      obtain⟨hend,hex,hle,hhead,hL⟩:=HE.out;have hbn:=hend.fbn;rw[hb]at hbn
      cases hz:left (fun r=>r==39) r with
      |nil=>
        rw[hz]at hbn;obtain rfl:b=0:=hbn;have hMM:M= .error 2:=(by rw[←HM.out];unfold singleM;rw[List.tail_cons,hz];rfl);have HMM:=yH hMM;have HFL:=yH (fun m=>rfail_no (hl.drewN m) 2);obtain⟨j,hj⟩:∃j:Nat,i+1+k=j:=⟨_,rfl⟩;rw[hj]at c1;clear hl hkL hk hsz hb hlt hi2 hj hend hex hle hhead hL hz hMM;go_wp2_with fail;refine(HAT.out 0).mono ?_;rintro e w1 ⟨rfl,m1,rfl⟩;go_wp2_with fail;refine(HAT.out _).mono ?_;rintro e w2 ⟨rfl,m2,rfl⟩;go_wp2_with fail;refine(HFL.out _).mono ?_;rintro e w4 ⟨rfl,hl4,hk4⟩;have H4:=yH (And.intro hl4 hk4);clear hl4 hk4;go_wp2_with fail;go_ret;rw[HMM.out];exact⟨⟨_,_,_,rfl⟩,⟨.inl rfl,_,H4.out.1⟩,((HH.out.2.2.drewN _).on H4.out.2).wideX⟩
      |cons x z=>
        have hx:x=39:=by
          rcases hhead with e|e
          · rw[hz]at e;cases e
          · rw[hz]at e;simpa [next]using e
        subst hx;rw[hz]at hend hbn;obtain rfl:b=39:=(by rw[hbn];rfl)
        have hMM:M= .ok (lit ps (enc (got (fun r=>r==39) r)) true,z):=by
          rw[←HM.out];unfold singleM;rw[List.tail_cons,hz];simp[takes]
        have HMM:=yH hMM;have hend2:=hend.fbn1 (by decide);have hle2:=hend2.le;obtain⟨j,hj⟩:∃j:Nat,i+1+k=j:=⟨_,rfl⟩;rw[hj]at c1 hend2 hex hl hle2;obtain⟨gs,hgs⟩:∃gs:ByteArray,(⟨(enc (got (fun r=>r==39) r)).toArray⟩:ByteArray)=gs:=⟨_,rfl⟩;rw[hgs]at hex
        have hsl:∀W,(Instr.slice 9 (.string s) (some (.int .i64 ((i:Int)+1))) (some (.int .i64 (j:Int))) none).run Tryz.prog W= .ok (.string gs) W:=fun W=>by
          rw[run_slice_string W 9 s .i64 .i64 _ _ Tryz.underlying9 (by omega) (by omega) (by omega),show((i:Int)+1).toNat=i+1 by omega,show(j:Int).toNat=j by omega,hex]
        have e2:IntKind.i64.wrap (j:Int)=(j:Int):=IntWalk.i64_in _ ⟨by omega,by omega⟩;have hj2:(j:Int)≤2000:=(by omega);have HL2:=yH (show ∀m,Lx ((wr.drewN m).setCell ⟨X,1,none⟩ (.int .i64 ((j:Int)+1))) X s ((j+1:Nat):Int) 0 from fun m=>(hl.drewN m).put1 _);have HK2:=yH (show ∀m,Kept (fun k=>k=X) w ((wr.drewN m).setCell ⟨X,1,none⟩ (.int .i64 ((j:Int)+1)))from fun m=>Kept.setCell (D:=fun k=>k=X) (HH.out.2.2.drewN m) (.inl rfl) _);have HP2:=yH hend2
        have HLIT:=yH (fun (W:World) (hW:Prt W B (.slice a0 ps.length c0v) ps) (hBW:B≤W.heap.size)=>by
          have:=rlit_any hW HF.out hBW (enc (got (fun r=>r==39) r)) (by have:=hend2.len;have:=HSI.out;omega) true;rw[show txt (enc (got (fun r=>r==39) r))= .string gs by rw[←hgs];rfl]at this
          exact this)
        clear hl hkL hk hsz hb hlt hi2 hj hend hend2 hex hle hle2 hhead hL hbn hz hMM hgs;go_wp2_with fail;refine(HAT.out 0).mono ?_;rintro e w1 ⟨rfl,m1,rfl⟩;go_wp2_with fail;have hrow:=HIN.out.row.keptX (HK2.out m1) HIN.out.hX;have hbw:=Nat.le_trans HIN.out.hB (HK2.out m1).size;have s0:=(HL2.out m1).c0;have s1:=(HL2.out m1).c1;have hkw:=HK2.out m1;rw[Int.natCast_add]at s1;obtain⟨WX,hWX⟩:∃WX,((wr.drewN m1).setCell ⟨X,1,none⟩ (.int .i64 ((j:Int)+1)))=WX:=⟨_,rfl⟩;have hlw:=HL2.out m1;rw[hWX]at hrow hbw s0 s1 hkw hlw ⊢;have HROW:=yH hrow.drew;have HBW:=yH (show B≤WX.drew.heap.size from hbw);have HKW:=yH (And.intro hkw hlw);have t0:=(show WX.drew.cell? _=_ from s0);have t1:=(show WX.drew.cell? _=_ from s1);have HNX:=yH (show ¬B≤X by have:=HIN.out.hX;omega);clear hrow hbw hWX hkw hlw
        go_region_held (fun W=>W.cell? ⟨X,0,none⟩=some (.string s)∧W.cell? ⟨X,1,none⟩=some (.int .i64 ((j:Int)+1))) (first|exact⟨t0,t1⟩|assumption|exact⟨SK.out.1,SK.out.2⟩) ((go_at_call 89;refine(HLIT.out _ HROW.out HBW.out).mono ?_;rintro e w3 ⟨v3,rfl,hr3,hk3⟩;have SK:=yH (And.intro (hk3.cell t0 HNX.out) (hk3.cell t1 HNX.out));have H3:=yH (And.intro hr3 hk3);clear hr3 hk3))
        go_wp2_with fail;go_ret;rw[HMM.out];exact⟨v3,rfl,(show LexAt WX X s z from⟨j+1,HKW.out.2,HP2.out⟩).drew.keptB H3.out.2 HIN.out.hX,H3.out.1,(HKW.out.1.drew.wideX).on H3.out.2.wideP⟩
end Go.Proofs.YtcpmjkefbjbhpaaGreatDoor
