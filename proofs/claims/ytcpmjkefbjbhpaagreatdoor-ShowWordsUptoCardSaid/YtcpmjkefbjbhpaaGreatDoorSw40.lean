/-
  Proved: contracts of functions, plain facts. Conditions: as each says.
-/
import Derived.Test.YtcpmjkefbjbhpaaGreatDoorRexDollar
import Derived.Test.YtcpmjkefbjbhpaaGreatDoorLexCore
namespace Go.Proofs.YtcpmjkefbjbhpaaGreatDoor
open Go Go.RowKit GlyphMath LexMath
def PtsEnd (w w':World) (e:Ending) (X:Nat) (s:ByteArray) (m:Res (List Pt)):Prop:=
  match m with
  | .ok (ps,r)=> ∃v,e= .returned v∧WordN w' w.heap.size v ps∧LexAt w' X s r∧Kept (fun k=>k=X) w w'
  | .error c=>(∃a n k,e= .returned (.slice a n k))∧LexErr w' X s c∧Kept (fun k=>k=X) w w'
def RexPartsDo (d:Bool) (depth:Nat) (f:List Nat→Res (List Pt)):Prop:=
  ∀(w:World) (X:Nat) (s:ByteArray) (xs:List Nat),LexAt w X s xs→s.size≤2000→
    Calls Tryz.prog 42 #[.pointer (some ⟨X,0,none⟩),.bool d,.int .i64 (depth:Int)] w fun e w'=>PtsEnd w w' e X s (f xs)
structure PtOk (w wr:World) (X:Nat) (s:ByteArray) (B:Nat) (br:List Nat→Res Pt) (d:Bool) (M:Res (List Pt)) (f:Nat) (ys:List Nat) (v:Value) (qs:List Pt):Prop where
  inn:PIn wr X s B v ys qs
  fits:Fits ys qs
  kept:Kept (fun k=>k=X∨B≤k) w wr
  fuel:ys.length<f
  said:partsL br d f ys qs=M
def PtR (w:World) (X:Nat) (s:ByteArray) (B:Nat) (br:List Nat→Res Pt) (d:Bool) (M:Res (List Pt)) (v:Value) (wr:World):Prop:=
  (∃f ys qs,PtOk w wr X s B br d M f ys v qs)∨(∃a n k,v= .slice a n k∧DbErr w wr X s B M)
theorem PtOk.go {w wr w':World} {X B f:Nat} {s:ByteArray} {br:List Nat→Res Pt} {d:Bool} {M:Res (List Pt)} {ys ys':List Nat} {v v':Value} {qs qs':List Pt} (h:PtOk w wr X s B br d M (f+1) ys v qs) (hl:Less ys ys') (hm:partsL br d f ys' qs'=M) (hi:PIn w' X s B v' ys' qs') (hf:Fits ys' qs') (hk:Kept (fun k=>k=X∨B≤k) wr w'):
    PtR w X s B br d M v' w'∧toGo w' X s.size<toGo wr X s.size:=by
  refine⟨.inl ⟨f,ys',qs',hi,hf,h.kept.on hk,by have:=h.fuel;have:=hl.2;omega,hm⟩,?_⟩;rw[hi.lex.toGo,h.inn.lex.toGo];have:=enc_less hl;omega
theorem PtOk.stop {w wr w':World} {X B f c:Nat} {s:ByteArray} {br:List Nat→Res Pt} {d:Bool} {M:Res (List Pt)} {ys:List Nat} {v:Value} {qs:List Pt} {a:Option Addr} {n k:Nat} (h:PtOk w wr X s B br d M f ys v qs) (hm:M= .error c) (he:LexErr w' X s c) (hk:Kept (fun k=>k=X∨B≤k) wr w'):
    PtR w X s B br d M (.slice a n k) w'∧toGo w' X s.size<toGo wr X s.size:=by
  refine⟨.inr ⟨_,_,_,rfl,c,hm,he,h.kept.on hk⟩,?_⟩;rw[he.toGo,h.inn.lex.toGo];omega
theorem PtOk.done {w wr w':World} {X f:Nat} {s:ByteArray} {br:List Nat→Res Pt} {d:Bool} {M:Res (List Pt)} {ys:List Nat} {v:Value} {qs:List Pt} (h:PtOk w wr X s w.heap.size br d M f ys v qs) (hm:M= .ok (qs,ys)) (hk:Kept (fun _=>False) wr w'):PtsEnd w w' (.returned v) X s M:=by
  rw[hm];refine⟨v,rfl,(h.inn.row.kept hk fun _ _ _ h=>h).word,h.inn.lex.kept hk (fun _ _ h=>h),(h.kept.on (hk.mono fun _ _ h=>h.elim)).mono fun k hk h=>h.elim id fun h=>by omega⟩
theorem part_at39 {br:List Nat→Res Pt} {d:Bool} {z:List Nat} {qs:List Pt} :partM br d (39::z) qs=singleM (39::z) qs:=by
  unfold partM;rw[if_neg (show ¬next (39::z)=92 from(by decide:¬(39:Nat)=92)),if_pos (show next (39::z)=39 from rfl)]
theorem part_at34 {br:List Nat→Res Pt} {d:Bool} {z:List Nat} {qs:List Pt} :partM br d (34::z) qs=doubleM br (34::z) qs:=by
  unfold partM;rw[if_neg (show ¬next (34::z)=92 from(by decide:¬(34:Nat)=92)),if_neg (show ¬next (34::z)=39 from(by decide:¬(34:Nat)=39)),if_pos (show next (34::z)=34 from rfl)]
theorem part_at36 {br:List Nat→Res Pt} {d:Bool} {z:List Nat} {qs:List Pt} :partM br d (36::z) qs=dollarM br false (36::z) qs:=by
  unfold partM;rw[if_neg (show ¬next (36::z)=92 from(by decide:¬(36:Nat)=92)),if_neg (show ¬next (36::z)=39 from(by decide:¬(36:Nat)=39)),if_neg (show ¬next (36::z)=34 from(by decide:¬(36:Nat)=34)),if_pos (show next (36::z)=36 from rfl)]
theorem part_at92 {br:List Nat→Res Pt} {d:Bool} {z:List Nat} {qs:List Pt} :partM br d (92::z) qs=escapedM (92::z) qs:=by
  unfold partM;rw[if_pos (show next (92::z)=92 from rfl)]
theorem ends_high {n:Nat} (h:128≤n) (d:Bool):ends n d=false:=by
  unfold ends blankR;cases d<;>simp<;>omega
theorem begins_high {n:Nat} (h:128≤n):begins n=false:=by
  unfold begins acts;simp;omega
theorem ends_fbn {xs:List Nat} (h:∀x∈xs,GoodL x) (d:Bool):ends (fbn xs) d=ends (next xs) d:=by
  rcases fbn_low h with e|⟨e1,e2⟩
  · rw[e]
  · rw[ends_high (by omega),ends_high e2]
theorem begins_fbn {xs:List Nat} (h:∀x∈xs,GoodL x):begins (fbn xs)=begins (next xs):=by
  rcases fbn_low h with e|⟨e1,e2⟩
  · rw[e]
  · rw[begins_high (by omega),begins_high e2]
set_option maxHeartbeats 4000000 in
theorem rexparts_any {d:Bool} {depth:Nat} {br:List Nat→Res Pt} (hb:BraceOk br) (hD:RDollarDo depth br):RexPartsDo d depth (fun xs=>partsL br d (xs.length+1) xs []):=by
  intro w X s xs h hs;obtain⟨M,hM⟩:∃M,partsL br d (xs.length+1) xs []=M:=⟨_,rfl⟩;show Calls _ _ _ _ fun e w'=>PtsEnd w w' e X s (partsL br d (xs.length+1) xs []);rw[hM]
  have hx:xs.length≤4000:=by
    obtain⟨i, -,hp⟩:=h;have h1:=hp.len;have h2:=(enc_length xs).1;omega
  have HST:=yH (show PtR w X s w.heap.size br d M (.slice none 0 0) w from .inl ⟨_,xs,[],⟨h,Prt.nil _ _,h.lt,Nat.le_refl _⟩,Fits.nil _ hx,Kept.refl _ _,Nat.lt_succ_self _,hM⟩);have HB:=yH hb;have HD:=yH hD;have HSZ:=yH hs;clear h hs hM hb hD hx;go_enter Tryz.func42,Tryz.ntmps42;go_wp2_with fail
  go_loopw [7] (fun v wr=>PtR w X s w.heap.size br d M v wr) (fun _ wr=>toGo wr X s.size)
  case atStart=>exact HST.out
  case round=>
    rcases hrel with hR|hR
    · obtain⟨f,ys,qs,hR⟩:=hR
      obtain⟨f,rfl⟩:∃g,f=g+1:=⟨f-1,by have:=hR.fuel;omega⟩;have HR:=yH hR;obtain⟨j,hl,hp⟩:=hR.inn.lex;have hsz:=HSZ.out;have hple:=hp.le;have HAT:=yH (rat_any hl 0 (by omega));rw[Nat.add_zero,hp.fbn]at HAT;have c1:=hl.c1;have c2:=hl.c2;have f1:=hl.fz 1;have hj2:(j:Int)≤2000:=(by omega);have hm:=hR.said;have HIN:=yH hR.inn;have hen:=ends_fbn hp.good d;have hbe:=begins_fbn hp.good;obtain⟨b,hb⟩:∃b,fbn ys=b:=⟨_,rfl⟩;rw[hb]at HAT hen hbe
      by_cases h0:b=0
      · subst h0
        have hy0:ys= []:=(next_zero hp.good).1 ((fbn_iff hp.good (k:=0) (by decide)).1 hb);subst hy0;have HM:=yH (show M= .ok (qs,[])from by rw[←hm,partsL,if_pos (.inl rfl)]);clear hR hl hp hsz hple hb hm hen hbe;go_wp2_with fail;refine HAT.out.mono ?_;rintro e w1 ⟨rfl,m1,rfl⟩;go_wp2_with fail;go_ret;exact HR.out.done HM.out ((Kept.refl _ wr).drewN _)
      · have y0:((b:Int)==0)=false:=rne h0
        have hn0:next ys≠0:=fun e=>h0 (by rw[←hb];exact(fbn_iff hp.good (by decide)).2 e)
        cases hE:ends (next ys) d with
        |true=>
          have HM:=yH (show M= .ok (qs,ys)from by rw[←hm,partsL,if_pos (.inr hE)]);rw[hE]at hen
          cases d with
          |true=>
            have h125:b=125:=(by simpa [ends]using hen);subst h125;clear hR hl hp hsz hple hb hm hen hbe h0 hn0 hE;go_wp2_with fail;refine HAT.out.mono ?_;rintro e w1 ⟨rfl,m1,rfl⟩;go_wp2_with fail;go_ret;exact HR.out.done HM.out ((Kept.refl _ wr).drewN _)
          |false=>
            have hq:b≠39∧b≠34∧b≠36∧b≠92:=by
              refine⟨?_,?_,?_,?_⟩<;>(intro e;rw[e]at hen;revert hen;decide)
            have y1:((b:Int)==39)=false:=rne hq.1;have y2:((b:Int)==34)=false:=rne hq.2.1;have y3:((b:Int)==36)=false:=rne hq.2.2.1;have y4:((b:Int)==92)=false:=rne hq.2.2.2;have hme:metaN b=true:=(by unfold metaN;rw[hen];rfl);clear hR hl hp hsz hple hb hm hen hbe h0 hn0 hE hq;go_wp2_with fail;refine HAT.out.mono ?_;rintro e w1 ⟨rfl,m1,rfl⟩
            go_wp2_with ((go_at_call 91;refine(rmeta_any b _).mono ?_;rintro e w3 ⟨rfl,rfl⟩;rw[hme]))
            go_ret;exact HR.out.done HM.out ((Kept.refl _ wr).drewN _)
        |false=>
          have HM0:=yH hm;rw[partsL,if_neg (by rintro(e|e);exact hn0 e;rw[hE]at e;cases e)]at hm;have HNE:=yH (And.intro hn0 hE);rw[hE]at hen
          have y125:d=true→((b:Int)==125)=false:=fun e=>by
            refine rne fun e2=> ?_;rw[e,e2]at hen
            revert hen;decide
          by_cases h39:b=39
          · subst h39
            obtain⟨z,rfl⟩:=eq_of_fbn (by decide) hp.good hb;rw[part_at39]at hm;have HDD:=yH (fun m=>rsingle_any (HIN.out.drewN m) hsz HR.out.fits);obtain⟨D,hd⟩:∃D,singleM (39::z) qs=D:=⟨_,rfl⟩;rw[hd]at HDD hm;have HDE:=yH hd;have HMM:=yH hm;clear hR hl hp hsz hple hb hm hd hen hbe h0 hn0 hE
            cases d
            all_goals
              first|(have z125:=y125 rfl;clear y125)|clear y125
              go_wp2_with fail;refine HAT.out.mono ?_;rintro e w1 ⟨rfl,m1,rfl⟩;go_wp2_with fail;refine(HDD.out m1).mono ?_;intro e w3 hE
              cases D with
              |error cc=>
                obtain⟨⟨a3,n3,k3,rfl⟩,hle,hk3⟩:=hE;have H3:=yH (And.intro hle hk3);clear hle hk3;go_wp2_with fail;exact HR.out.stop HMM.out.symm H3.out.1 ((Kept.refl _ wr).drewN _|>.on H3.out.2)
              |ok a=>
                obtain⟨qs',ys'⟩:=a;obtain⟨v3,rfl,hle,hr3,hk3⟩:=hE;have H3:=yH (And.intro hle (And.intro hr3 hk3));clear hle hr3 hk3;go_wp2_with fail;obtain⟨l1,l2⟩:=part_less HB.out (part_at39.trans HDE.out) HNE.out.1 HNE.out.2;exact HR.out.go l1 HMM.out ⟨H3.out.1,H3.out.2.1,HIN.out.hX,Nat.le_trans HIN.out.hB H3.out.2.2.size⟩ (l2 HR.out.fits) ((Kept.refl _ wr).drewN _|>.on H3.out.2.2)
          have y39:((b:Int)==39)=false:=rne h39
          by_cases h34:b=34
          · subst h34
            obtain⟨z,rfl⟩:=eq_of_fbn (by decide) hp.good hb;rw[part_at34]at hm;have HDD:=yH (fun m=>rdouble_any HB.out HD.out (HIN.out.drewN m) hsz HR.out.fits);obtain⟨D,hd⟩:∃D,doubleM br (34::z) qs=D:=⟨_,rfl⟩;rw[hd]at HDD hm;have HDE:=yH hd;have HMM:=yH hm;clear hR hl hp hsz hple hb hm hd hen hbe h0 hn0 hE
            cases d
            all_goals
              first|(have z125:=y125 rfl;clear y125)|clear y125
              go_wp2_with fail;refine HAT.out.mono ?_;rintro e w1 ⟨rfl,m1,rfl⟩;go_wp2_with fail;refine(HDD.out m1).mono ?_;intro e w3 hE
              cases D with
              |error cc=>
                obtain⟨⟨a3,n3,k3,rfl⟩,hle,hk3⟩:=hE;have H3:=yH (And.intro hle hk3);clear hle hk3;go_wp2_with fail;exact HR.out.stop HMM.out.symm H3.out.1 ((Kept.refl _ wr).drewN _|>.on H3.out.2)
              |ok a=>
                obtain⟨qs',ys'⟩:=a;obtain⟨v3,rfl,hle,hr3,hk3⟩:=hE;have H3:=yH (And.intro hle (And.intro hr3 hk3));clear hle hr3 hk3;go_wp2_with fail;obtain⟨l1,l2⟩:=part_less HB.out (part_at34.trans HDE.out) HNE.out.1 HNE.out.2;exact HR.out.go l1 HMM.out ⟨H3.out.1,H3.out.2.1,HIN.out.hX,Nat.le_trans HIN.out.hB H3.out.2.2.size⟩ (l2 HR.out.fits) ((Kept.refl _ wr).drewN _|>.on H3.out.2.2)
          have y34:((b:Int)==34)=false:=rne h34
          by_cases h36:b=36
          · subst h36
            obtain⟨z,rfl⟩:=eq_of_fbn (by decide) hp.good hb;rw[part_at36]at hm;have HDD:=yH (fun m=>HD.out (wr.drewN m) X s w.heap.size u7 z qs (HIN.out.drewN m) hsz HR.out.fits false);obtain⟨D,hd⟩:∃D,dollarM br false (36::z) qs=D:=⟨_,rfl⟩;rw[hd]at HDD hm;have HDE:=yH hd;have HMM:=yH hm;clear hR hl hp hsz hple hb hm hd hen hbe h0 hn0 hE
            cases d
            all_goals
              first|(have z125:=y125 rfl;clear y125)|clear y125
              go_wp2_with fail;refine HAT.out.mono ?_;rintro e w1 ⟨rfl,m1,rfl⟩;go_wp2_with fail;refine(HDD.out m1).mono ?_;intro e w3 hE
              cases D with
              |error cc=>
                obtain⟨⟨a3,n3,k3,rfl⟩,hle,hk3⟩:=hE;have H3:=yH (And.intro hle hk3);clear hle hk3;go_wp2_with fail;exact HR.out.stop HMM.out.symm H3.out.1 ((Kept.refl _ wr).drewN _|>.on H3.out.2)
              |ok a=>
                obtain⟨qs',ys'⟩:=a;obtain⟨v3,rfl,hle,hr3,hk3⟩:=hE;have H3:=yH (And.intro hle (And.intro hr3 hk3));clear hle hr3 hk3;go_wp2_with fail;obtain⟨l1,l2⟩:=part_less HB.out (part_at36.trans HDE.out) HNE.out.1 HNE.out.2;exact HR.out.go l1 HMM.out ⟨H3.out.1,H3.out.2.1,HIN.out.hX,Nat.le_trans HIN.out.hB H3.out.2.2.size⟩ (l2 HR.out.fits) ((Kept.refl _ wr).drewN _|>.on H3.out.2.2)
          have y36:((b:Int)==36)=false:=rne h36
          by_cases h92:b=92
          · subst h92
            obtain⟨z,rfl⟩:=eq_of_fbn (by decide) hp.good hb;rw[part_at92]at hm;have hp2:=hp.fbn1 (by decide);have HL2:=yH (show ∀m,Lx ((wr.drewN m).setCell ⟨X,1,none⟩ (.int .i64 ((j:Int)+1))) X s ((j+1:Nat):Int) 0 from fun m=>(hl.drewN m).put1 _);have HK2:=yH (show ∀m,Kept (fun k=>k=X) wr ((wr.drewN m).setCell ⟨X,1,none⟩ (.int .i64 ((j:Int)+1)))from fun m=>Kept.setCell (D:=fun k=>k=X) ((Kept.refl _ wr).drewN m) (.inl rfl) _)
            cases z with
            |nil=>
              have HM:=yH (show M= .error 2 from hm.symm);have hend:s.size≤j+1:=(by have:=hp2.len;simp[enc]at this;omega);have HLE:=yH (fun m=>rletter_end (HL2.out m) hend);clear hR hl hp hp2 hsz hple hb hm hen hbe h0 hn0 hE hend
              cases d
              all_goals
                first|(have z125:=y125 rfl;clear y125)|clear y125
                go_wp2_with fail;refine HAT.out.mono ?_;rintro e w1 ⟨rfl,m1,rfl⟩;go_wp2_with fail;refine(HLE.out m1).mono ?_;rintro e w3 ⟨rfl,hl3,hk3⟩;have H3:=yH (And.intro hl3 hk3);clear hl3 hk3;go_wp2_with fail;have hrow:=HIN.out.row.keptX ((HK2.out m1).on H3.out.2) HIN.out.hX;refine(rlit_any (xs:= [92]) hrow HR.out.fits (Nat.le_trans HIN.out.hB ((HK2.out m1).on H3.out.2).size) [] (by decide) true).mono ?_;rintro e w4 ⟨v4,rfl,hr4,hk4⟩;obtain⟨a4,c4,rfl⟩:=hr4.shape;have H4:=yH hk4;clear hr4 hk4 hrow;go_wp2_with fail;exact HR.out.stop HM.out ⟨.inl rfl,_,H3.out.1.kept H4.out (fun k hk=>by have:=HIN.out.hX;omega)⟩ (((HK2.out m1).on H3.out.2).wideX.on H4.out.wideP)
            |cons c z=>
              rw[show escapedM (92::c::z) qs= .ok (lit qs (eb c) true,z)from by show Except.ok (lit qs (enc [c]) true,z)=_;rw[enc_one]]at hm;simp only at hm;have HLE:=yH (fun m=>rletter_any (HL2.out m) hp2 hsz);have HP3:=yH hp2.step;have HF3:=yH (HR.out.fits.lit (eb c) true (show z.length+1≤(92::c::z).length by simp) (by have:=eb_length c;simp;omega));have HMM:=yH hm;have hx:=eb_length c;have HX:=yH (show(eb c).length≤16000 by omega);clear hR hl hp hp2 hsz hple hb hm hen hbe h0 hn0 hE hx
              cases d
              all_goals
                first|(have z125:=y125 rfl;clear y125)|clear y125
                go_wp2_with fail;refine HAT.out.mono ?_;rintro e w1 ⟨rfl,m1,rfl⟩;go_wp2_with fail;refine(HLE.out m1).mono ?_;rintro e w3 ⟨rfl,hl3,hk3⟩;have H3:=yH (And.intro hl3 hk3);clear hl3 hk3;go_wp2_with fail;have hin:=HIN.out.step ⟨_,H3.out.1,HP3.out⟩ ((HK2.out m1).on H3.out.2);refine(rlit_any (xs:=92::c::z) hin.row HR.out.fits hin.hB (eb c) HX.out true).mono ?_;rintro e w4 ⟨v4,rfl,hr4,hk4⟩;have H4:=yH (And.intro hin (And.intro hr4 hk4));clear hin hr4 hk4;go_wp2_with fail;exact HR.out.go ⟨⟨[92,c],rfl⟩,by simp;omega⟩ HMM.out (H4.out.1.put H4.out.2.1 H4.out.2.2) HF3.out (((HK2.out m1).on H3.out.2).wideX.on H4.out.2.2.wideP)
          have y92:((b:Int)==92)=false:=rne h92
          cases ys with
          |nil=>exact absurd hb.symm h0
          |cons c z=>
            have hbg:begins c=false:=by
              rw[show begins c=begins b from hbe.symm];simp[begins,acts,h39,h34,h36,h92]
            have hm2:=HM0.out;rw[parts_one HB.out hp.good hbg hE hR.fuel]at hm2
            have hme:d=false→metaN b=false:=fun e=>by
              rw[e]at hen;unfold metaN;rw[hen,hbe,show begins (next (c::z))=false from hbg];rfl
            have HMM:=yH hm2;have HLE:=yH (fun m=>rletter_any (hl.drewN m) hp hsz);have HP3:=yH hp.step;have HF3:=yH (HR.out.fits.lit (eb c) false (show z.length+1≤(c::z).length by simp) (by have:=eb_length c;simp;omega));have hx:=eb_length c;have HX:=yH (show(eb c).length≤16000 by omega);clear hR hl hp hsz hple hb hm hm2 hen hbe h0 hn0 hE hx hbg h39 h34 h36 h92
            cases d
            all_goals
              first|(have z125:=y125 rfl;clear y125)|clear y125
              first|(have hme2:=hme rfl;clear hme)|clear hme
              go_wp2_with fail;refine HAT.out.mono ?_;rintro e w1 ⟨rfl,m1,rfl⟩;go_wp2_with fail
              (try (refine(rmeta_any b _).mono ?_;rintro e w3 ⟨rfl,rfl⟩;rw[hme2];go_wp2_with fail))
              refine(HLE.out m1).mono ?_;rintro e w3 ⟨rfl,hl3,hk3⟩;have H3:=yH (And.intro hl3 hk3);clear hl3 hk3;go_wp2_with fail;have hin:=(HIN.out.drewN m1).step ⟨_,H3.out.1,HP3.out⟩ H3.out.2;refine(rlit_any (xs:=c::z) hin.row HR.out.fits hin.hB (eb c) HX.out false).mono ?_;rintro e w4 ⟨v4,rfl,hr4,hk4⟩;have H4:=yH (And.intro hin (And.intro hr4 hk4));clear hin hr4 hk4;go_wp2_with fail;exact HR.out.go ⟨⟨[c],rfl⟩,by simp⟩ HMM.out (H4.out.1.put H4.out.2.1 H4.out.2.2) HF3.out ((((Kept.refl _ wr).drewN _).on H3.out.2).wideX.on H4.out.2.2.wideP)
    · obtain⟨a,n,k,rfl,c,hm,he,hk⟩:=hR
      have hne:=he.ne.2;obtain⟨hc,j,hl⟩:=he;have c2:=hl.c2;have HH:=yH (And.intro hm (And.intro hc (And.intro hl hk)));clear hm hc hl hk;go_wp2_with fail;go_ret;rw[HH.out.1];exact⟨⟨_,_,_,rfl⟩,⟨HH.out.2.1,_,HH.out.2.2.1⟩,HH.out.2.2.2.mono fun k hk h=>h.elim id fun h=>by omega⟩
theorem results_cell {fn:Func} {p:Tmp} {ty:TypeId} (h:fn.results= #[.cell p ty]) (tmps:Array Value) (P:Program) (w:World):
    (results fn tmps).run P w=((asAddr (tmps.getD p undef)).run P w).andThen fun a w₁=>(loadVar ty a).run P w₁:=by
  simp only[results,h];simp[Sem.run_bind,Result.andThen]
theorem ret_one {fn:Func} {p:Tmp} (hf:fn.results= #[.cell p 55]) {tmps:Array Value} {k:Nat} {a b c d e:Value} {w:World} {t:TypeId} {fr:Nat×Nat} (h:w.heap[k]? =some (.cells #[a,b,c,d,e] t fr)) (h2:tmps.getD p undef= .pointer (some ⟨k,0,none⟩)):
    (results fn tmps).run Tryz.prog w= .ok (.agg #[a,b,c,d,e]) w:=by
  rw[results_cell hf,h2];simp[asAddr,Result.andThen,load_part h]
structure BrAt (w wr:World) (X V:Nat) (q:Bool) (T O:ByteArray) (u:Value):Prop where
  res:wr.heap[w.heap.size]? =some ZB
  var:wr.heap[V]? =some (.cells #[.int .i64 2,.string T,.string O,u,.bool q] 55 (0,0))
  kept:Kept (fun k=>k=X) w wr
  hV:w.heap.size<V
  hX:X<w.heap.size
theorem BrAt.on {w wr wr':World} {X V:Nat} {q:Bool} {T O:ByteArray} {u:Value} (h:BrAt w wr X V q T O u) (hk:Kept (fun k=>k=X) wr wr'):BrAt w wr' X V q T O u:=by
  have h1:=h.hV;have h2:=h.hX;exact⟨hk.heap h.res (by omega),hk.heap h.var (by omega),h.kept.on hk,h1,h2⟩
theorem BrAt.drewN {w wr:World} {X V:Nat} {q:Bool} {T O:ByteArray} {u:Value} (h:BrAt w wr X V q T O u) (m:Nat):BrAt w (wr.drewN m) X V q T O u:=h.on ((Kept.refl _ wr).drewN m)
theorem BrAt.text {w wr:World} {X V:Nat} {q:Bool} {T O:ByteArray} {u:Value} (h:BrAt w wr X V q T O u) (T':ByteArray):BrAt w (wr.setCell ⟨V,1,none⟩ (.string T')) X V q T' O u:=
  ⟨(Below.heap_setCell _ _ _ _ (by have:=h.hV;show w.heap.size≠V;omega)).trans h.res,heap_setCell_same _ V 1 _ _ _ h.var,h.kept.setCell (.inr (Nat.le_of_lt h.hV)) _,h.hV,h.hX⟩
theorem BrAt.op {w wr:World} {X V:Nat} {q:Bool} {T O:ByteArray} {u:Value} (h:BrAt w wr X V q T O u) (T':ByteArray):BrAt w (wr.setCell ⟨V,2,none⟩ (.string T')) X V q T T' u:=
  ⟨(Below.heap_setCell _ _ _ _ (by have:=h.hV;show w.heap.size≠V;omega)).trans h.res,heap_setCell_same _ V 2 _ _ _ h.var,h.kept.setCell (.inr (Nat.le_of_lt h.hV)) _,h.hV,h.hX⟩
theorem BrAt.word {w wr:World} {X V:Nat} {q:Bool} {T O:ByteArray} {u:Value} (h:BrAt w wr X V q T O u) (u':Value):BrAt w (wr.setCell ⟨V,3,none⟩ u') X V q T O u':=
  ⟨(Below.heap_setCell _ _ _ _ (by have:=h.hV;show w.heap.size≠V;omega)).trans h.res,heap_setCell_same _ V 3 _ _ _ h.var,h.kept.setCell (.inr (Nat.le_of_lt h.hV)) _,h.hV,h.hX⟩
theorem kept_var {w:World} {V o:Nat} {u:Value} :Kept (fun k=>k=V) w (w.setCell ⟨V,o,none⟩ u):=Kept.setCell (D:=fun k=>k=V) (Kept.refl _ w) (.inl rfl) _
theorem LexAt.var {w:World} {X V o:Nat} {s:ByteArray} {xs:List Nat} {u:Value} (h:LexAt w X s xs) (hV:X<V):LexAt (w.setCell ⟨V,o,none⟩ u) X s xs:=h.kept kept_var fun k hk=>by omega
theorem LexErr.var {w:World} {X V o c:Nat} {s:ByteArray} {u:Value} (h:LexErr w X s c) (hV:X<V):LexErr (w.setCell ⟨V,o,none⟩ u) X s c:=h.kept kept_var fun k hk=>by omega
theorem Lx.var {w:World} {X V o:Nat} {s:ByteArray} {i e:Int} {u:Value} (h:Lx w X s i e) (hV:X<V):Lx (w.setCell ⟨V,o,none⟩ u) X s i e:=h.kept kept_var fun k hk=>by omega
theorem LexErr.drewN {w:World} {X c:Nat} {s:ByteArray} (h:LexErr w X s c) (m:Nat):LexErr (w.drewN m) X s c:=h.kept ((Kept.refl (fun _=>False) w).drewN m) fun _ _ h=>h
theorem BrAt.fin {w wr:World} {X V:Nat} {q:Bool} {T O:ByteArray} {u:Value} (h:BrAt w wr X V q T O u) (a b c d e:Value):
    (((((wr.setCell ⟨w.heap.size,0,none⟩ a).setCell ⟨w.heap.size,1,none⟩ b).setCell ⟨w.heap.size,2,none⟩ c).setCell ⟨w.heap.size,3,none⟩ d).setCell ⟨w.heap.size,4,none⟩ e).heap[w.heap.size]? =some (.cells #[a,b,c,d,e] 55 (0,0))∧
    Kept (fun k=>k=w.heap.size) wr (((((wr.setCell ⟨w.heap.size,0,none⟩ a).setCell ⟨w.heap.size,1,none⟩ b).setCell ⟨w.heap.size,2,none⟩ c).setCell ⟨w.heap.size,3,none⟩ d).setCell ⟨w.heap.size,4,none⟩ e):=
  ⟨five_put h.res _ _ _ _ _,five_kept (D:=fun k=>k=w.heap.size) (Kept.refl _ _) (.inl rfl) _ _ _ _ _⟩
theorem LexErr.put1 {w:World} {X c:Nat} {s:ByteArray} (h:LexErr w X s c) (j:Int):LexErr (w.setCell ⟨X,1,none⟩ (.int .i64 j)) X s c:=by
  obtain⟨h0,i,h⟩:=h;exact⟨h0,j,h.put1 j⟩
theorem BrAt.end0 {w wr:World} {X V c:Nat} {q:Bool} {T O:ByteArray} {a:Option Addr} {n k:Nat} {s:ByteArray} (h:BrAt w wr X V q T O (.slice a n k)) (he:LexErr wr X s c):
    BrEnd w (((((wr.setCell ⟨w.heap.size,0,none⟩ (.int .i64 2)).setCell ⟨w.heap.size,1,none⟩ (.string T)).setCell ⟨w.heap.size,2,none⟩ (.string O)).setCell ⟨w.heap.size,3,none⟩ (.slice a n k)).setCell ⟨w.heap.size,4,none⟩ (.bool q)) (.returned (.agg #[.int .i64 2,.string T,.string O,.slice a n k,.bool q])) X s q (.error c):=by
  have hf:=h.fin (.int .i64 2) (.string T) (.string O) (.slice a n k) (.bool q);have hX:=h.hX;exact⟨⟨_,_,_,_,_,rfl⟩,he.kept hf.2 fun k hk=>by omega,h.kept.trans hf.2 fun k hk=> .inr (by omega)⟩
theorem BrAt.end_err {w wr:World} {X V c:Nat} {q:Bool} {T O:ByteArray} {a:Option Addr} {n k:Nat} {s:ByteArray} (h:BrAt w wr X V q T O (.slice a n k)) (he:LexErr wr X s c) (j:Int):
    BrEnd w ((((((wr.setCell ⟨X,1,none⟩ (.int .i64 j)).setCell ⟨w.heap.size,0,none⟩ (.int .i64 2)).setCell ⟨w.heap.size,1,none⟩ (.string T)).setCell ⟨w.heap.size,2,none⟩ (.string O)).setCell ⟨w.heap.size,3,none⟩ (.slice a n k)).setCell ⟨w.heap.size,4,none⟩ (.bool q)) (.returned (.agg #[.int .i64 2,.string T,.string O,.slice a n k,.bool q])) X s q (.error c):=
  BrAt.end0 (h.on (Kept.setCell (D:=fun k=>k=X) (Kept.refl _ wr) (.inl rfl) _)) (he.put1 j)
theorem BrAt.end_ok {w wr:World} {X V:Nat} {q:Bool} {T O:ByteArray} {u:Value} {s:ByteArray} {i:Nat} {r:List Nat} {p:Pt} (h:BrAt w wr X V q T O u) (hl:Lx wr X s (i:Int) 0) (hp:Pos s i (125::r)) (hk:p.kind=2) (hT:txt p.text= .string T) (hO:txt p.op= .string O) (hu:WordN wr (w.heap.size+1) u p.word):
    BrEnd w ((((((wr.setCell ⟨X,1,none⟩ (.int .i64 ((i:Int)+1))).setCell ⟨w.heap.size,0,none⟩ (.int .i64 2)).setCell ⟨w.heap.size,1,none⟩ (.string T)).setCell ⟨w.heap.size,2,none⟩ (.string O)).setCell ⟨w.heap.size,3,none⟩ u).setCell ⟨w.heap.size,4,none⟩ (.bool q)) (.returned (.agg #[.int .i64 2,.string T,.string O,u,.bool q])) X s q (.ok (p,r)):=by
  have hk1:=Kept.setCell (D:=fun k=>k=X) (Kept.refl _ wr) (p:=⟨X,1,none⟩) (.inl rfl) (.int .i64 ((i:Int)+1));have h5:=h.on hk1;have hf:=h5.fin (.int .i64 2) (.string T) (.string O) u (.bool q);have hX:=h.hX;have hl1:Lx (wr.setCell ⟨X,1,none⟩ (.int .i64 ((i:Int)+1))) X s ((i+1:Nat):Int) 0:=hl.put1 _;refine⟨u,T,O,hT,hO,by rw[hk],((hu.kept hk1 fun k hk=>by omega).kept hf.2 fun k hk=>by omega).base (by omega),⟨i+1,hl1.kept hf.2 fun k hk=>by omega,hp.fbn1 (by decide)⟩,h5.kept.trans hf.2 fun k hk=> .inr (by omega)⟩
set_option maxHeartbeats 2000000 in
set_option maxRecDepth 100000 in
theorem rbrace_lim {depth:Nat} (hd:20≤depth) (f:List Nat→Res (List Pt)):RBraceDo depth (bracesM true f):=by
  intro w X s xs h hs q;have hM:bracesM true f xs= .error 3:=rfl;rw[hM];obtain⟨i,hl,hp⟩:=h;have hX:=hl.lt;have hl1:=hl.kept (D:=fun _=>False) (Kept.of_below ((Below.refl _ w).alloc (Nat.le_refl _) ZB)) fun _ _ h=>h;have HF:=yH (rfail_no hl1 3);have hdi:(20:Int)≤(depth:Int):=(by omega);have HX:=yH hX;clear hl hp hl1 hd hM hs;go_enter Tryz.func128,Tryz.ntmps128;go_wp2_with fail;refine HF.out.mono ?_;rintro e w1 ⟨rfl,hl1,hk1⟩;have hz:w.heap.size+1≤w1.heap.size:=(by have:=hk1.size;simpa using this)
  have hb1:BrAt w (w1.alloc (.cells #[.int .i64 2,.string ⟨#[]⟩,.string ⟨#[]⟩,.slice none 0 0,.bool q] 55)) X w1.heap.size q ⟨#[]⟩ ⟨#[]⟩ (.slice none 0 0):=
    ⟨(Below.heap_alloc _ _ _ (by omega)).trans (hk1.heap (heap_alloc_new w ZB) (by omega)),heap_alloc_new w1 _,((Kept.of_below (D:=fun k=>k=X) ((Below.refl _ w).alloc (Nat.le_refl _) ZB)).on hk1).alloc _,by omega,hX⟩
  have hl2:LexErr (w1.alloc (.cells #[.int .i64 2,.string ⟨#[]⟩,.string ⟨#[]⟩,.slice none 0 0,.bool q] 55)) X s 3:=⟨.inr rfl,i,hl1.kept (D:=fun _=>False) (Kept.alloc (Kept.refl _ _) _) fun _ _ h=>h⟩;obtain⟨V,hV⟩:∃V,w1.heap.size=V:=⟨_,rfl⟩;go_wp2_with fail;obtain⟨w2,hw2⟩:∃w2,w1.alloc (.cells #[.int .i64 2,.string ⟨#[]⟩,.string ⟨#[]⟩,.slice none 0 0,.bool q] 55)=w2:=⟨_,rfl⟩;rw[hw2]at hb1 hl2 ⊢;rw[hV]at hb1;have HB2:=yH hb1;have HL2:=yH hl2;clear hb1 hl2 hw2 hV hz hk1 hl1 hdi hX;obtain⟨j,hlx⟩:=HL2.out.2;refine(rat_err hlx HL2.out.ne.1 0).mono ?_;rintro e w3 ⟨rfl,m1,rfl⟩;go_wp2_with fail;refine(rparam_err (hlx.drewN m1) HL2.out.ne.1).mono ?_;rintro e w3 ⟨rfl,m2,rfl⟩;rw[World.drewN_drewN];obtain⟨d0,d1,d2,d3,d4⟩:=five_cells (HB2.out.drewN (m1+m2)).var;have f1:=five_free (HB2.out.drewN (m1+m2)).var 1;clear hlx;go_wp2_with fail;obtain⟨w3,hw3⟩:∃w3,(w2.drewN (m1+m2)).setCell ⟨V,1,none⟩ (.string ⟨#[]⟩)=w3:=⟨_,rfl⟩;have HB3:=yH (show BrAt w w3 X V q ⟨#[]⟩ ⟨#[]⟩ (.slice none 0 0) by rw[←hw3];exact(HB2.out.drewN _).text _);have HL3:=yH (show LexErr w3 X s 3 by rw[←hw3];exact(HL2.out.drewN _).var (by have:=HB2.out.hV;have:=HB2.out.hX;omega));rw[hw3];clear hw3 d0 d1 d2 d3 d4 f1;obtain⟨j,hlx⟩:=HL3.out.2;refine(rfail_yes hlx HL3.out.ne.2 2).mono ?_;rintro e w4 ⟨rfl,rfl⟩;clear hlx;obtain⟨d0,d1,d2,d3,d4⟩:=five_cells HB3.out.var;go_wp2_with fail;obtain⟨j9,hlx⟩:=(HL3.out).2;refine(rat_err hlx (HL3.out).ne.1 0).mono ?_;rintro e w9 ⟨rfl,m8,rfl⟩;go_wp2_with fail;refine(rat_err (hlx.drewN m8) (HL3.out).ne.1 0).mono ?_;rintro e w9 ⟨rfl,m9,rfl⟩;rw[World.drewN_drewN];go_wp2_with fail;refine(rfail_yes (hlx.drewN (m8+m9)) (HL3.out).ne.2 2).mono ?_;rintro e w9 ⟨rfl,rfl⟩;have c1:=(hlx.drewN (m8+m9)).c1;have g1:=(hlx.drewN (m8+m9)).fz 1
  (try clear d0 d1 d2 d3 d4)
  obtain⟨d0,d1,d2,d3,d4⟩:=five_cells ((HB3.out).drewN (m8+m9)).var;obtain⟨x0,x1,x2,x3,x4⟩:=five_cells ((HB3.out).drewN (m8+m9)).res;have y:=five_free ((HB3.out).drewN (m8+m9)).res;have y0:=y 0;have y1:=y 1;have y2:=y 2;have y3:=y 3;have y4:=y 4;have n1:¬V=X:=(by have:=((HB3.out).drewN (m8+m9)).hV;have:=((HB3.out).drewN (m8+m9)).hX;omega);have n2:¬w.heap.size=X:=(by have:=((HB3.out).drewN (m8+m9)).hX;omega);have n3:¬V=w.heap.size:=(by have:=((HB3.out).drewN (m8+m9)).hV;omega);have n4:¬X=V:=fun e=>n1 e.symm;have n5:¬X=w.heap.size:=fun e=>n2 e.symm;have n6:¬w.heap.size=V:=fun e=>n3 e.symm;clear y;go_wp2_with fail;refine bodyPost_ret (ret_one rfl (((HB3.out).drewN (m8+m9)).on (Kept.setCell (D:=fun k=>k=X) (Kept.refl _ _) (.inl rfl) _)|>.fin _ _ _ _ _).1 rfl) rfl ?_;exact((HB3.out).drewN (m8+m9)).end_err ((HL3.out).drewN (m8+m9)) _
end Go.Proofs.YtcpmjkefbjbhpaaGreatDoor
