/-
  Proved: the statements' own lexer takes what stands in double quotes, of whatever dollar. Conditions: it lies in memory, beside a row of parts; the text's letters are good.
-/
import Derived.Test.YtcpmjkefbjbhpaaGreatDoorSw36
import Derived.Test.YtcpmjkefbjbhpaaGreatDoorSw37
namespace Go.Proofs.YtcpmjkefbjbhpaaGreatDoor
open Go Go.RowKit GlyphMath LexMath
theorem LexAt.drewN {w:World} {X:Nat} {s:ByteArray} {xs:List Nat} (h:LexAt w X s xs) (m:Nat):LexAt (w.drewN m) X s xs:=h.kept ((Kept.refl (fun _=>False) w).drewN m) fun _ _ h=>h
theorem PIn.drewN {w:World} {X B:Nat} {s:ByteArray} {v:Value} {xs:List Nat} {ps:List Pt} (h:PIn w X s B v xs ps) (m:Nat):PIn (w.drewN m) X s B v xs ps:=
  h.step (h.lex.drewN m) ((Kept.refl _ w).drewN m)
def toGo (w:World) (X n:Nat):Nat:=match w.cell? ⟨X,2,none⟩with
  |some (.int _ e)=>if e=0 then toEnd w X n+1 else 0
  |_=>0
theorem Lx.toGo {w:World} {X n:Nat} {s:ByteArray} {i:Int} (h:Lx w X s i 0):toGo w X n=n-i.toNat+1:=by
  unfold Go.Proofs.YtcpmjkefbjbhpaaGreatDoor.toGo;rw[h.c2];simp only[if_true,h.toEnd]
theorem LexErr.toGo {w:World} {X n c:Nat} {s:ByteArray} (h:LexErr w X s c):toGo w X n=0:=by
  obtain⟨h0,i,h⟩:=h;unfold Go.Proofs.YtcpmjkefbjbhpaaGreatDoor.toGo;rw[h.c2];have:¬(c:Int)=0:=(by omega);simp only[if_neg this]
theorem enc_less {xs ys:List Nat} (h:Less xs ys):(enc ys).length<(enc xs).length:=by
  obtain⟨⟨l,rfl⟩,h⟩:=h;rw[List.length_append]at h;have:=enc_length l;rw[enc_append,List.length_append];omega
theorem LexAt.toGo {w:World} {X:Nat} {s:ByteArray} {xs:List Nat} (h:LexAt w X s xs):toGo w X s.size=(enc xs).length+1:=by
  obtain⟨i,h1,h2⟩:=h;rw[h1.toGo];have:=h2.len;simp only[Int.toNat_natCast];omega
theorem eb_is {c k:Nat} (hg:GoodL c) (hk:k<128):(eb c== [UInt8.ofNat k])=(c==k):=by
  obtain⟨h1,h2,h3,h4⟩:=fb_facts hg;rw[eb_split]
  by_cases hc:c<128
  · obtain⟨e1,e2⟩:=h3 hc
    rw[e1,e2];refine bool_iff ?_;simp only[beq_iff_eq,List.cons.injEq,and_true];constructor
    · intro h
      have:=congrArg UInt8.toNat h
      rwa [byte_of _ (by omega),byte_of _ (by omega)]at this
    · intro h;rw[h]
  · have h5:=h4 (by omega)
    have e1:(c==k)=false:=by
      have:¬c=k:=by omega
      simpa using this
    rw[e1]
    have:¬UInt8.ofNat (fb c)=UInt8.ofNat k:=fun h=>by
      have:=congrArg UInt8.toNat h;rw[byte_of _ h2,byte_of _ (by omega)]at this;omega
    simp[this]
theorem within_dollar {br:List Nat→Res Pt} {z:List Nat} {qs:List Pt} :withinM br (36::z) qs=dollarM br true (36::z) qs:=by
  unfold withinM;rw[if_neg (show ¬next (36::z)=0 from(by decide:¬(36:Nat)=0)),if_neg (show ¬next (36::z)=92 from(by decide:¬(36:Nat)=92)),if_pos (show next (36::z)=36 from rfl)]
theorem within_back {br:List Nat→Res Pt} {z:List Nat} {qs:List Pt} :withinM br (92::z) qs=escapedWithinM (92::z) qs:=by
  unfold withinM;rw[if_neg (show ¬next (92::z)=0 from(by decide:¬(92:Nat)=0)),if_pos (show next (92::z)=92 from rfl)]
theorem escW {c:Nat} {z:List Nat} {qs:List Pt} :escapedWithinM (92::c::z) qs= .ok (lit qs (if acts c then eb c else [92]++eb c) true,z):=by
  show Except.ok (lit (if acts c then qs else lit qs [92] true) (enc [c]) true,z)=_;rw[enc_one]
  cases acts c
  · rw[if_neg (by decide),if_neg (by decide),lit_lit]
  · rw[if_pos rfl,if_pos rfl]
theorem back_tests {c:Nat} (hg:GoodL c):(acts c=false∧(eb c== [UInt8.ofNat 34])=false∧(eb c== [UInt8.ofNat 36])=false∧(eb c== [UInt8.ofNat 92])=false)∨
    (acts c=true∧((eb c== [UInt8.ofNat 34])=true∨((eb c== [UInt8.ofNat 34])=false∧(eb c== [UInt8.ofNat 36])=true)∨((eb c== [UInt8.ofNat 34])=false∧(eb c== [UInt8.ofNat 36])=false∧(eb c== [UInt8.ofNat 92])=true))):=by
  rw[eb_is hg (by omega),eb_is hg (by omega),eb_is hg (by omega)];unfold acts
  by_cases h1:c=34
  · subst h1;right;decide
  · by_cases h2:c=36
    · subst h2;right;decide
    · by_cases h3:c=92
      · subst h3;right;decide
      · left;simp[h1,h2,h3]
def RDollarDo (depth:Nat) (br:List Nat→Res Pt):Prop:=
  ∀(w:World) (X:Nat) (s:ByteArray) (B:Nat) (v:Value) (r:List Nat) (ps:List Pt),PIn w X s B v (36::r) ps→s.size≤2000→Fits (36::r) ps→∀q:Bool,
    Calls Tryz.prog 88 #[.pointer (some ⟨X,0,none⟩),v,.bool q,.int .i64 (depth:Int)] w fun e w'=>PrtEnd w w' e X s B (dollarM br q (36::r) ps)
structure DbOk (w wr:World) (X:Nat) (s:ByteArray) (B:Nat) (br:List Nat→Res Pt) (M:Res (List Pt)) (f:Nat) (ys:List Nat) (v:Value) (qs:List Pt) (b:Bool):Prop where
  inn:PIn wr X s B v ys qs
  fits:Fits ys qs
  kept:Kept (fun k=>k=X∨B≤k) w wr
  fuel:ys.length<f
  said:(b=false∧next ys=34∧M= .ok (lit qs [] true,ys.tail))∨(¬(b=false∧next ys=34)∧doubleL br f ys qs=M)
def DbErr (w wr:World) (X:Nat) (s:ByteArray) (B:Nat) (M:Res (List Pt)):Prop:=∃c,M= .error c∧LexErr wr X s c∧Kept (fun k=>k=X∨B≤k) w wr
def DbR (w:World) (X:Nat) (s:ByteArray) (B:Nat) (br:List Nat→Res Pt) (M:Res (List Pt)) (v b:Value) (wr:World):Prop:=
  ∃bb,b= .bool bb∧((∃f ys qs,DbOk w wr X s B br M f ys v qs bb)∨DbErr w wr X s B M)
theorem DbOk.go {w wr w':World} {X B f:Nat} {s:ByteArray} {br:List Nat→Res Pt} {M:Res (List Pt)} {ys ys':List Nat} {v v':Value} {qs qs':List Pt} {b:Bool} (h:DbOk w wr X s B br M (f+1) ys v qs b) (hl:Less ys ys') (hm:doubleL br f ys' qs'=M) (hi:PIn w' X s B v' ys' qs') (hf:Fits ys' qs') (hk:Kept (fun k=>k=X∨B≤k) wr w'):
    DbR w X s B br M v' (.bool true) w'∧toGo w' X s.size<toGo wr X s.size:=by
  refine⟨⟨true,rfl,.inl ⟨f,ys',qs',hi,hf,h.kept.on hk,by have:=h.fuel;have:=hl.2;omega,.inr ⟨by simp,hm⟩⟩⟩,?_⟩;rw[hi.lex.toGo,h.inn.lex.toGo];have:=enc_less hl;omega
theorem DbOk.stop {w wr w':World} {X B f c:Nat} {s:ByteArray} {br:List Nat→Res Pt} {M:Res (List Pt)} {ys:List Nat} {v v':Value} {qs:List Pt} {b:Bool} (h:DbOk w wr X s B br M f ys v qs b) (hm:M= .error c) (he:LexErr w' X s c) (hk:Kept (fun k=>k=X∨B≤k) wr w'):
    DbR w X s B br M v' (.bool true) w'∧toGo w' X s.size<toGo wr X s.size:=by
  refine⟨⟨true,rfl,.inr ⟨c,hm,he,h.kept.on hk⟩⟩,?_⟩;rw[he.toGo,h.inn.lex.toGo];omega
set_option maxHeartbeats 2000000 in
theorem rdouble_any {depth:Nat} {br:List Nat→Res Pt} (hb:BraceOk br) (hD:RDollarDo depth br) {w:World} {X B:Nat} {s:ByteArray} {v:Value} {r:List Nat} {ps:List Pt} (h:PIn w X s B v (34::r) ps) (hs:s.size≤2000) (hf:Fits (34::r) ps):
    Calls Tryz.prog 87 #[.pointer (some ⟨X,0,none⟩),v,.int .i64 (depth:Int)] w fun e w'=>PrtEnd w w' e X s B (doubleM br (34::r) ps):=by
  obtain⟨M,hM⟩:∃M,doubleM br (34::r) ps=M:=⟨_,rfl⟩;rw[hM];obtain⟨i,hl,hp⟩:=h.lex;have c1:=hl.c1;have f1:=hl.fz 1;have hp1:=hp.fbn1 (by decide);have hle1:=hp1.le;have hi2:(i:Int)≤2000:=(by omega)
  have HST:=yH (show DbR w X s B br M v (.bool false) (w.setCell ⟨X,1,none⟩ (.int .i64 ((i:Int)+1)))from by
    have hl1:Lx (w.setCell ⟨X,1,none⟩ (.int .i64 ((i:Int)+1))) X s ((i+1:Nat):Int) 0:=hl.put1 _;have hk1:=Kept.setCell (D:=fun k=>k=X) (Kept.refl _ w) (p:=⟨X,1,none⟩) (.inl rfl) (.int .i64 ((i:Int)+1));refine⟨false,rfl,.inl ⟨(34::r).length+1,r,ps,h.step ⟨i+1,hl1,hp1⟩ hk1,hf.mono (by simp),hk1.wideX,by simp;omega,?_⟩⟩;have hm:doubleL br ((34::r).length+1) r (if next r=34 then lit ps [] true else ps)=M:=hM
    by_cases h34:next r=34
    · left
      rw[if_pos h34,doubleL,takes_one,if_pos ⟨h34,fun e=>by rw[e]at h34;cases h34⟩]at hm;exact⟨rfl,h34,hm.symm⟩
    · right
      rw[if_neg h34]at hm
      exact⟨fun e=>h34 e.2,hm⟩)
  have HB:=yH hb;have HD:=yH hD;have HSZ:=yH hs;clear h hl hp hp1 hle1 hs hf hM hb hD;go_enter Tryz.func87,Tryz.ntmps87;go_wp2_with fail
  go_loopw [1,7] (fun v b wr=>DbR w X s B br M v b wr) (fun _ _ wr=>toGo wr X s.size)
  case atStart=>exact HST.out
  case round=>
    obtain⟨bb,rfl,hR|hR⟩:=hrel
    · obtain⟨f,ys,qs,hR⟩:=hR
      obtain⟨f,rfl⟩:∃g,f=g+1:=⟨f-1,by have:=hR.fuel;omega⟩;have HR:=yH hR;obtain⟨j,hl,hp⟩:=hR.inn.lex;have HJ:=yH (And.intro hl hp);have hsz:=HSZ.out;have hple:=hp.le;have HAT:=yH (fun m=>rat_any (hl.drewN m) 0 (by omega));rw[Nat.add_zero,hp.fbn]at HAT;have c1:=hl.c1;have f1:=hl.fz 1;obtain⟨b,hb⟩:∃b,fbn ys=b:=⟨_,rfl⟩;rw[hb]at HAT;have hj2:(j:Int)≤2000:=(by omega)
      by_cases h34:b=34
      · subst h34
        obtain⟨z,rfl⟩:=eq_of_fbn (by decide) hp.good hb;have hp2:=hp.fbn1 (by decide);have HP2:=yH hp2;have HL2:=yH (show ∀m,Lx ((wr.drewN m).setCell ⟨X,1,none⟩ (.int .i64 ((j:Int)+1))) X s ((j+1:Nat):Int) 0 from fun m=>(hl.drewN m).put1 _);have HK2:=yH (show ∀m,Kept (fun k=>k=X) wr ((wr.drewN m).setCell ⟨X,1,none⟩ (.int .i64 ((j:Int)+1)))from fun m=>Kept.setCell (D:=fun k=>k=X) ((Kept.refl _ wr).drewN m) (.inl rfl) _);clear hR hl hp hp2 hsz hple hb
        cases bb with
        |false=>
          have HM:=yH (show M= .ok (lit qs [] true,z)from by
            rcases HR.out.said with e|e
            · exact e.2.2
            · exact absurd ⟨rfl,rfl⟩ e.1)
          go_wp2_with fail;refine(HAT.out 0).mono ?_;rintro e w1 ⟨rfl,m1,rfl⟩;go_wp2_with fail;have hin:=HR.out.inn.step ⟨_,HL2.out m1,HP2.out⟩ (HK2.out m1);refine(rlit_any (xs:=z) hin.row (HR.out.fits.mono (by simp)) hin.hB [] (by simp) true).mono ?_;rintro e w2 ⟨v2,rfl,hr2,hk2⟩;have H2:=yH (And.intro hin (And.intro hr2 hk2));clear hin hr2 hk2;go_wp2_with fail;go_ret;rw[HM.out];exact⟨v2,rfl,H2.out.1.lex.keptB H2.out.2.2 H2.out.1.hX,H2.out.2.1,(HR.out.kept.on (HK2.out m1).wideX).on H2.out.2.2.wideP⟩
        |true=>
          have HM:=yH (show M= .ok (qs,z)from by
            rcases HR.out.said with e|e
            · exact absurd e.1 (by simp)
            · rw[←e.2,doubleL];simp[takes])
          go_wp2_with fail;refine(HAT.out 0).mono ?_;rintro e w1 ⟨rfl,m1,rfl⟩;go_wp2_with fail;go_ret;rw[HM.out];have hin:=HR.out.inn.step ⟨_,HL2.out m1,HP2.out⟩ (HK2.out m1);exact⟨_,rfl,hin.lex,hin.row,HR.out.kept.on (HK2.out m1).wideX⟩
      · have y34:((b:Int)==34)=false:=rne h34
        have hn34:next ys≠34:=fun e=>h34 (by rw[←hb];exact(fbn_iff hp.good (by decide)).2 e)
        have hm:doubleL br (f+1) ys qs=M:=by
          rcases hR.said with e|e
          · exact absurd e.2.1 hn34
          · exact e.2
        have HM0:=yH hm;rw[doubleL,is34 hn34]at hm;simp only at hm;have HN:=yH hn34;have HIN:=yH hR.inn
        by_cases h0:b=0
        · -- the end
          subst h0
          have hy0:ys= []:=by
            have:=(fbn_iff hp.good (k:=0) (by decide)).1 hb;exact(next_zero hp.good).1 this
          subst hy0;have HM:=yH (show M= .error 2 from hm.symm);have HFL:=yH (fun m=>rfail_no (hl.drewN m) 2);clear hR hl hp hsz hple hb hm hn34 h34;go_wp2_with fail;refine(HAT.out 0).mono ?_;rintro e w1 ⟨rfl,m1,rfl⟩;go_wp2_with fail;refine(HAT.out _).mono ?_;rintro e w2 ⟨rfl,m2,rfl⟩;go_wp2_with fail;refine(HFL.out _).mono ?_;rintro e w4 ⟨rfl,hl4,hk4⟩;have H4:=yH (And.intro hl4 hk4);clear hl4 hk4;go_wp2_with fail;go_ret;rw[HM.out];exact⟨⟨_,_,_,rfl⟩,⟨.inl rfl,_,H4.out.1⟩,(HR.out.kept.drewN _).on H4.out.2.wideX⟩
        · have y0:((b:Int)==0)=false:=rne h0
          by_cases h36:b=36
          · -- a dollar
            subst h36;obtain⟨z,rfl⟩:=eq_of_fbn (by decide) hp.good hb;rw[within_dollar]at hm;have HDD:=yH (fun m=>HD.out (wr.drewN m) X s B u1 z qs (HIN.out.drewN m) hsz HR.out.fits true);obtain⟨D,hd⟩:∃D,dollarM br true (36::z) qs=D:=⟨_,rfl⟩;rw[hd]at HDD hm;have HDE:=yH hd;have HMM:=yH hm;clear hR hl hp hsz hple hb hm hn34 h34 hd;go_wp2_with fail;refine(HAT.out 0).mono ?_;rintro e w1 ⟨rfl,m1,rfl⟩;go_wp2_with fail;refine(HAT.out _).mono ?_;rintro e w2 ⟨rfl,m2,rfl⟩;go_wp2_with fail;refine(HDD.out _).mono ?_;intro e w3 hE
            cases D with
            |error cc=>
              obtain⟨⟨a3,n3,k3,rfl⟩,hle,hk3⟩:=hE;have H3:=yH (And.intro hle hk3);clear hle hk3;go_wp2_with fail;exact HR.out.stop HMM.out.symm H3.out.1 ((Kept.refl _ wr).drewN _|>.on H3.out.2)
            |ok a=>
              obtain⟨qs',ys'⟩:=a;obtain⟨v3,rfl,hle,hr3,hk3⟩:=hE;have H3:=yH (And.intro hle (And.intro hr3 hk3));clear hle hr3 hk3;go_wp2_with fail;obtain⟨l1,l2⟩:=within_less HB.out (show withinM br (36::z) qs= .ok (qs',ys')from within_dollar.trans HDE.out) HN.out;exact HR.out.go l1 HMM.out ⟨H3.out.1,H3.out.2.1,HIN.out.hX,Nat.le_trans HIN.out.hB H3.out.2.2.size⟩ (l2 HR.out.fits) ((Kept.refl _ wr).drewN _|>.on H3.out.2.2)
          · have y36:((b:Int)==36)=false:=rne h36
            by_cases h92:b=92
            · -- a backslash
              subst h92;obtain⟨z,rfl⟩:=eq_of_fbn (by decide) hp.good hb;rw[within_back]at hm;have hp2:=hp.fbn1 (by decide);have HP2:=yH hp2;have HL2:=yH (show ∀m,Lx ((wr.drewN m).setCell ⟨X,1,none⟩ (.int .i64 ((j:Int)+1))) X s ((j+1:Nat):Int) 0 from fun m=>(hl.drewN m).put1 _);have HK2:=yH (show ∀m,Kept (fun k=>k=X) wr ((wr.drewN m).setCell ⟨X,1,none⟩ (.int .i64 ((j:Int)+1)))from fun m=>Kept.setCell (D:=fun k=>k=X) ((Kept.refl _ wr).drewN m) (.inl rfl) _)
              cases z with
              |nil=>
                have HM:=yH (show M= .error 2 from hm.symm);have hend:s.size≤j+1:=(by have:=hp2.len;simp[enc]at this;omega);have HLE:=yH (fun m=>rletter_end (HL2.out m) hend);have e92:(⟨#[92]⟩:ByteArray)++⟨#[]⟩=⟨#[92]⟩:=(by rw[show (⟨#[92]⟩:ByteArray)=⟨[92].toArray⟩from rfl,show(⟨#[]⟩:ByteArray)=⟨[].toArray⟩from rfl,bytes_append];rfl);clear hR hl hp hp2 hsz hple hb hm hn34 h34 h0 h36 hend;go_wp2_with fail;refine(HAT.out 0).mono ?_;rintro e w1 ⟨rfl,m1,rfl⟩;go_wp2_with fail;refine(HAT.out _).mono ?_;rintro e w2 ⟨rfl,m2,rfl⟩;go_wp2_with fail;refine(HLE.out _).mono ?_;rintro e w3 ⟨rfl,hl3,hk3⟩;have H3:=yH (And.intro hl3 hk3);clear hl3 hk3;go_wp2_with fail;have hrow:=HIN.out.row.keptX ((HK2.out (m1+m2)).on H3.out.2) HIN.out.hX
                first
                  |refine(rlit_any (xs:= [92]) hrow HR.out.fits (Nat.le_trans HIN.out.hB ((HK2.out (m1+m2)).on H3.out.2).size) [92] (by decide) true).mono ?_
                  |(rw[e92];refine(rlit_any (xs:= [92]) hrow HR.out.fits (Nat.le_trans HIN.out.hB ((HK2.out (m1+m2)).on H3.out.2).size) [92] (by decide) true).mono ?_)
                rintro e w4 ⟨v4,rfl,hr4,hk4⟩;have H4:=yH (And.intro hr4 hk4);clear hr4 hk4 hrow;go_wp2_with fail;exact HR.out.stop HM.out ⟨.inl rfl,_,H3.out.1.kept H4.out.2 (fun k hk=>by have:=HIN.out.hX;omega)⟩ (((HK2.out (m1+m2)).on H3.out.2).wideX.on H4.out.2.wideP)
              |cons c z=>
                rw[escW]at hm;simp only at hm;have hgc:=hp2.good c (by simp);have HLE:=yH (fun m=>rletter_any (HL2.out m) hp2 hsz);have HP3:=yH hp2.step
                have htl:(if acts c then eb c else [92]++eb c).length+4*z.length≤4*(92::c::z).length:=by
                  have:=eb_length c
                  split<;>simp<;>omega
                have HF3:=yH (HR.out.fits.lit (if acts c then eb c else [92]++eb c) true (show z.length+1≤(92::c::z).length by simp) htl);have HMM:=yH hm;have hx:=eb_length c;have hbt:=back_tests hgc
                have HLE3:=yH (show(if acts c then eb c else [92]++eb c).length≤16000 from by
                  split
                  · omega
                  · simp only[List.length_append,List.length_singleton];omega)
                obtain⟨T,hT⟩:∃T:ByteArray,(⟨(eb c).toArray⟩:ByteArray)=T:=⟨_,rfl⟩;have hTl:T.toList=eb c:=(by rw[←hT];exact ByteArray.toList_mk _);have hTz:T.size=(eb c).length:=(by rw[←hT,bytes_size]);rw[hT]at HLE;rw[←hTl]at hbt;have hsz4:¬(9223372036854775807:Int)<1+(T.size:Int):=(by omega)
                rcases hbt with ⟨ha,k1,k2,k3⟩|⟨ha,hk⟩
                · have k1:=(show(T.toList== [34])=false from k1)
                  have k2:=(show(T.toList== [36])=false from k2);have k3:=(show(T.toList== [92])=false from k3)
                  have HLIT:=yH (fun (W:World) (hW:Prt W B u1 qs) (hBW:B≤W.heap.size)=>by
                    have:=rlit_any hW HR.out.fits hBW (if acts c then eb c else [92]++eb c) HLE3.out true;rw[show txt (if acts c then eb c else [92]++eb c)= .string (⟨#[92]⟩++T) by rw[ha,←hT,show(⟨#[92]⟩:ByteArray)=⟨[92].toArray⟩from rfl,bytes_append];rfl]at this
                    exact this)
                  clear hR hl hp hp2 hsz hple hb hm hn34 h34 h0 h36 htl hx hT hTl hTz ha hgc;go_wp2_with fail;refine(HAT.out 0).mono ?_;rintro e w1 ⟨rfl,m1,rfl⟩;go_wp2_with fail;refine(HAT.out _).mono ?_;rintro e w2 ⟨rfl,m2,rfl⟩;go_wp2_with fail;refine(HLE.out _).mono ?_;rintro e w3 ⟨rfl,hl3,hk3⟩;have H3:=yH (And.intro hl3 hk3);clear hl3 hk3;go_wp2_with fail;have hin:=HIN.out.step ⟨_,H3.out.1,HP3.out⟩ ((HK2.out (m1+m2)).on H3.out.2);refine(HLIT.out _ hin.row hin.hB).mono ?_;rintro e w4 ⟨v4,rfl,hr4,hk4⟩;have H4:=yH (And.intro hin (And.intro hr4 hk4));clear hin hr4 hk4;go_wp2_with fail;exact HR.out.go ⟨⟨[92,c],rfl⟩,by simp;omega⟩ HMM.out (H4.out.1.put H4.out.2.1 H4.out.2.2) HF3.out (((HK2.out (m1+m2)).on H3.out.2).wideX.on H4.out.2.2.wideP)
                · have HLIT:=yH (fun (W:World) (hW:Prt W B u1 qs) (hBW:B≤W.heap.size)=>by
                    have:=rlit_any hW HR.out.fits hBW (if acts c then eb c else [92]++eb c) HLE3.out true;rw[show txt (if acts c then eb c else [92]++eb c)= .string T by rw[ha,←hT];rfl]at this
                    exact this)
                  have hk:=(show(T.toList== [34])=true∨((T.toList== [34])=false∧(T.toList== [36])=true)∨((T.toList== [34])=false∧(T.toList== [36])=false∧(T.toList== [92])=true)from hk);clear hR hl hp hp2 hsz hple hb hm hn34 h34 h0 h36 htl hx hT hTl hTz ha hgc
                  rcases hk with k1|⟨k1,k2⟩|⟨k1,k2,k3⟩
                  · go_wp2_with fail
                    refine(HAT.out 0).mono ?_;rintro e w1 ⟨rfl,m1,rfl⟩;go_wp2_with fail;refine(HAT.out _).mono ?_;rintro e w2 ⟨rfl,m2,rfl⟩;go_wp2_with fail;refine(HLE.out _).mono ?_;rintro e w3 ⟨rfl,hl3,hk3⟩;have H3:=yH (And.intro hl3 hk3);clear hl3 hk3;go_wp2_with fail;have hin:=HIN.out.step ⟨_,H3.out.1,HP3.out⟩ ((HK2.out (m1+m2)).on H3.out.2);refine(HLIT.out _ hin.row hin.hB).mono ?_;rintro e w4 ⟨v4,rfl,hr4,hk4⟩;have H4:=yH (And.intro hin (And.intro hr4 hk4));clear hin hr4 hk4;go_wp2_with fail;exact HR.out.go ⟨⟨[92,c],rfl⟩,by simp;omega⟩ HMM.out (H4.out.1.put H4.out.2.1 H4.out.2.2) HF3.out (((HK2.out (m1+m2)).on H3.out.2).wideX.on H4.out.2.2.wideP)
                  · go_wp2_with fail
                    refine(HAT.out 0).mono ?_;rintro e w1 ⟨rfl,m1,rfl⟩;go_wp2_with fail;refine(HAT.out _).mono ?_;rintro e w2 ⟨rfl,m2,rfl⟩;go_wp2_with fail;refine(HLE.out _).mono ?_;rintro e w3 ⟨rfl,hl3,hk3⟩;have H3:=yH (And.intro hl3 hk3);clear hl3 hk3;go_wp2_with fail;have hin:=HIN.out.step ⟨_,H3.out.1,HP3.out⟩ ((HK2.out (m1+m2)).on H3.out.2);refine(HLIT.out _ hin.row hin.hB).mono ?_;rintro e w4 ⟨v4,rfl,hr4,hk4⟩;have H4:=yH (And.intro hin (And.intro hr4 hk4));clear hin hr4 hk4;go_wp2_with fail;exact HR.out.go ⟨⟨[92,c],rfl⟩,by simp;omega⟩ HMM.out (H4.out.1.put H4.out.2.1 H4.out.2.2) HF3.out (((HK2.out (m1+m2)).on H3.out.2).wideX.on H4.out.2.2.wideP)
                  · go_wp2_with fail
                    refine(HAT.out 0).mono ?_;rintro e w1 ⟨rfl,m1,rfl⟩;go_wp2_with fail;refine(HAT.out _).mono ?_;rintro e w2 ⟨rfl,m2,rfl⟩;go_wp2_with fail;refine(HLE.out _).mono ?_;rintro e w3 ⟨rfl,hl3,hk3⟩;have H3:=yH (And.intro hl3 hk3);clear hl3 hk3;go_wp2_with fail;have hin:=HIN.out.step ⟨_,H3.out.1,HP3.out⟩ ((HK2.out (m1+m2)).on H3.out.2);refine(HLIT.out _ hin.row hin.hB).mono ?_;rintro e w4 ⟨v4,rfl,hr4,hk4⟩;have H4:=yH (And.intro hin (And.intro hr4 hk4));clear hin hr4 hk4;go_wp2_with fail;exact HR.out.go ⟨⟨[92,c],rfl⟩,by simp;omega⟩ HMM.out (H4.out.1.put H4.out.2.1 H4.out.2.2) HF3.out (((HK2.out (m1+m2)).on H3.out.2).wideX.on H4.out.2.2.wideP)
            · -- a mere letter
              cases ys with
              |nil=>exact absurd hb.symm h0
              |cons c z=>
                have hac:acts c=false:=by
                  have e:=fun k (hk:k<128)=>(fbn_iff hp.good hk).2;have a1:c≠34:=hn34;have a2:c≠36:=fun e2=>h36 (by rw[←hb];exact e 36 (by decide) e2);have a3:c≠92:=fun e2=>h92 (by rw[←hb];exact e 92 (by decide) e2);simp[acts,a1,a2,a3]
                have hm2:=HM0.out;rw[double_one HB.out hp.good hac hR.fuel]at hm2;have HMM:=yH hm2;have HLE:=yH (fun m=>rletter_any (hl.drewN m) hp hsz);have HP3:=yH hp.step;have HF3:=yH (HR.out.fits.lit (eb c) true (show z.length+1≤(c::z).length by simp) (by have:=eb_length c;simp;omega));have y92:((b:Int)==92)=false:=rne h92;have hx:=eb_length c;have HX:=yH (show(eb c).length≤16000 by omega);clear hR hl hp hsz hple hb hm hm2 hn34 h34 h0 h36 h92 hac hx;go_wp2_with fail;refine(HAT.out 0).mono ?_;rintro e w1 ⟨rfl,m1,rfl⟩;go_wp2_with fail;refine(HAT.out _).mono ?_;rintro e w2 ⟨rfl,m2,rfl⟩;go_wp2_with fail;refine(HLE.out _).mono ?_;rintro e w3 ⟨rfl,hl3,hk3⟩;have H3:=yH (And.intro hl3 hk3);clear hl3 hk3;go_wp2_with fail;have hin:=(HIN.out.drewN (m1+m2)).step ⟨_,H3.out.1,HP3.out⟩ H3.out.2;refine(rlit_any (xs:=c::z) hin.row HR.out.fits hin.hB (eb c) HX.out true).mono ?_;rintro e w4 ⟨v4,rfl,hr4,hk4⟩;have H4:=yH (And.intro hin (And.intro hr4 hk4));clear hin hr4 hk4;go_wp2_with fail;exact HR.out.go ⟨⟨[c],rfl⟩,by simp⟩ HMM.out (H4.out.1.put H4.out.2.1 H4.out.2.2) HF3.out ((((Kept.refl _ wr).drewN _).on H3.out.2).wideX.on H4.out.2.2.wideP)
    · obtain⟨c,hm,he,hk⟩:=hR
      have hne:=he.ne.1;obtain⟨hc,j,hl⟩:=he;have HAT:=yH (fun m=>rat_err (hl.drewN m) hne 0);have HFL:=yH (fun m=>rfail_yes (hl.drewN m) (show((c:Int)==0)=false by rcases hc with rfl|rfl<;>rfl) 2);have HH:=yH (And.intro hm (And.intro hc (And.intro hl hk)));clear hm hc hl hk hne;go_wp2_with fail;refine(HAT.out 0).mono ?_;rintro e w1 ⟨rfl,m1,rfl⟩;go_wp2_with fail;refine(HAT.out _).mono ?_;rintro e w2 ⟨rfl,m2,rfl⟩;go_wp2_with fail;refine(HFL.out _).mono ?_;rintro e w4 ⟨rfl,rfl⟩;go_wp2_with fail;go_ret;rw[HH.out.1];exact⟨⟨_,_,_,rfl⟩,⟨HH.out.2.1,_,HH.out.2.2.1.drewN _⟩,HH.out.2.2.2.drewN _⟩
end Go.Proofs.YtcpmjkefbjbhpaaGreatDoor
