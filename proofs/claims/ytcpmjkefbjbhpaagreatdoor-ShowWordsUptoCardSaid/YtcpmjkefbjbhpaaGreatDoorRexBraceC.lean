/-
  Proved: the statements' own lexer takes what stands in braces, where a parameter is followed by an operation. Conditions: it lies in memory; the text's letters are good.
-/
import Derived.Test.YtcpmjkefbjbhpaaGreatDoorRexBraceB
namespace Go.Proofs.YtcpmjkefbjbhpaaGreatDoor
open Go Go.RowKit GlyphMath LexMath
theorem op_good {nm:Bool} {k:Nat} {r:List Nat} (h:k=45∨k=43∨(k=61∧nm=true)):opM nm (58::k::r)=some ([58,UInt8.ofNat k],r):=by
  rcases h with rfl|rfl|⟨rfl,rfl⟩
  · unfold opM;simp[takes]
  · unfold opM;simp[takes]
  · unfold opM;simp[takes]
theorem close_yes {p:Pt} {z:List Nat} :closeM p (125::z)= .ok (p,z):=by unfold closeM;simp[takes]
theorem close_no {p:Pt} {r:List Nat} (h:next r≠125):closeM p r= .error 2:=by
  unfold closeM;rw[takes_one,if_neg fun e=>h e.1]
theorem BrAt.drew {w wr:World} {X V:Nat} {q:Bool} {T O:ByteArray} {u:Value} (h:BrAt w wr X V q T O u):BrAt w wr.drew X V q T O u:=h.on ((Kept.refl _ wr).drew)
set_option maxHeartbeats 4000000 in
set_option maxRecDepth 100000 in
theorem rbrace_good {depth:Nat} {f:List Nat→Res (List Pt)} (hP:RexPartsDo true (depth+1) f) (hd:depth<20) {w:World} {X:Nat} {s:ByteArray} {xs:List Nat} (h:LexAt w X s xs) (hs:s.size≤2000) (q:Bool) (hcond:next xs=35→firstR (next xs.tail:Int)=false) (hfo:firstR (next xs:Int)=true∨other (next xs)=true) {l:List Nat} {k:Nat} {r:List Nat} (hpm:parameterM xs= .ok (l,58::k::r)) (hk:k=45∨k=43∨(k=61∧nameL l=true)):
    Calls Tryz.prog 128 #[.pointer (some ⟨X,0,none⟩),.bool q,.int .i64 (depth:Int)] w fun e w'=>BrEnd w w' e X s q (bracesM false f xs):=by
  have hM:bracesM false f xs=match f r with
      | .error e=> .error e
      | .ok (wd,r')=>closeM ⟨2,enc l,[58,UInt8.ofNat k],wd,false⟩ r':=by
    rw[braces_param hpm,if_neg (show ¬next (58::k::r)=125 from(by decide:¬(58:Nat)=125)),operation_op (r:=58::k::r) (fun e=>absurd (show firstR ((58:Nat):Int)=true from e.2) (by decide)),op_good hk];dsimp only
    cases f r<;>rfl
  obtain⟨M,hMM⟩:∃M,bracesM false f xs=M:=⟨_,rfl⟩;rw[hMM]at hM ⊢;obtain⟨D,hD⟩:∃D,f r=D:=⟨_,rfl⟩;rw[hD]at hM;have HM:=yH hM;have HD:=yH hD;have HP:=yH hP
  have hk128:k<128:=by rcases hk with rfl|rfl|⟨rfl, -⟩<;>decide
  obtain⟨i,hl,hp⟩:=h;have hX:=hl.lt;have hple:=hp.le;have hl2:Lx ((w.alloc (.cells #[.int .i64 0,.string ⟨#[]⟩,.string ⟨#[]⟩,.slice none 0 0,.bool false] 55)).alloc (.cells #[.int .i64 2,.string ⟨#[]⟩,.string ⟨#[]⟩,.slice none 0 0,.bool q] 55)) X s (i:Int) 0:=hl.kept (D:=fun _=>False) (Kept.of_below (((Below.refl _ w).alloc (Nat.le_refl _) _).alloc (by simp) _)) fun _ _ h=>h
  have hb2:BrAt w ((w.alloc (.cells #[.int .i64 0,.string ⟨#[]⟩,.string ⟨#[]⟩,.slice none 0 0,.bool false] 55)).alloc (.cells #[.int .i64 2,.string ⟨#[]⟩,.string ⟨#[]⟩,.slice none 0 0,.bool q] 55)) X (w.heap.size+1) q ⟨#[]⟩ ⟨#[]⟩ (.slice none 0 0):=by
    refine⟨(Below.heap_alloc _ _ _ (by simp)).trans (heap_alloc_new w ZB),?_,Kept.of_below (((Below.refl _ w).alloc (Nat.le_refl _) _).alloc (by simp) _),by omega,hX⟩;have:=heap_alloc_new (w.alloc (.cells #[.int .i64 0,.string ⟨#[]⟩,.string ⟨#[]⟩,.slice none 0 0,.bool false] 55)) (.cells #[.int .i64 2,.string ⟨#[]⟩,.string ⟨#[]⟩,.slice none 0 0,.bool q] 55)
    rwa [show (w.alloc (.cells #[.int .i64 0,.string ⟨#[]⟩,.string ⟨#[]⟩,.slice none 0 0,.bool false] 55)).heap.size=w.heap.size+1 by simp]at this
  obtain⟨w2,hw2⟩:∃w2,(w.alloc (.cells #[.int .i64 0,.string ⟨#[]⟩,.string ⟨#[]⟩,.slice none 0 0,.bool false] 55)).alloc (.cells #[.int .i64 2,.string ⟨#[]⟩,.string ⟨#[]⟩,.slice none 0 0,.bool q] 55)=w2:=⟨_,rfl⟩;obtain⟨V,hV⟩:∃V,w.heap.size+1=V:=⟨_,rfl⟩;rw[hw2]at hl2 hb2;rw[hV]at hb2;have HB2:=yH hb2;have HL2:=yH (show LexAt w2 X s xs from⟨i,hl2,hp⟩);have HAT:=yH (rat_any hl2 0 (by omega));rw[Nat.add_zero,hp.fbn]at HAT;have HV:=yH hV;have HS:=yH hs;have hdd:decide ((20:Int)≤(depth:Int))=false:=decide_eq_false (by omega);have hd2:(depth:Int)≤20:=(by omega)
  have hpre:(∃r,xs=35::r∧firstR (fbn r:Int)=false)∨fbn xs≠35:=by
    by_cases e:fbn xs=35
    · obtain⟨r,hr⟩:=eq_of_fbn (by decide) hp.good e
      left;refine⟨r,hr,?_⟩;rw[firstR_fbn (fun x hx=>hp.good x (by rw[hr];simp[hx]))];rw[hr]at hcond;exact hcond rfl
    · exact .inr e
  have hpre2:(fbn xs=35∧∃b1:Nat,firstR (b1:Int)=false∧b1<256∧RowKit.Hid (∀m,Calls Tryz.prog 85 #[.pointer (some ⟨X,0,none⟩),.int .i64 1] (w2.drewN m) fun e w'=>e= .returned (.int .u8 (b1:Int))∧∃m',w'=(w2.drewN m).drewN m'))∨fbn xs≠35:=by
    rcases hpre with ⟨r,rfl,hf1⟩|e
    · left
      have hp1:=hp.fbn1 (by decide);refine⟨rfl,fbn r,hf1,fbn_lt hp1.good,yH fun m=> ?_⟩;have h1:=rat_any (hl2.drewN m) 1 (by have:=hp1.le;omega);rw[hp1.fbn]at h1;exact h1
    · exact .inr e
  obtain⟨b0,hb0⟩:∃b0,fbn xs=b0:=⟨_,rfl⟩;rw[hb0]at HAT hpre2;obtain⟨T,hT,hTe,hTa⟩:=str_ne (param_short hpm).1;have HT:=yH (And.intro hT hTa);clear hT hTa
  have HNM:=yH (fun (W:World) (hW:Tabs W)=>by
    have hsz:T.size≤1000:=by
      have h1:=(enc_length l).2;have h2:=(param_short hpm).2.1;rw[←HT.out.2,bytes_size];omega
    have:=rname_any T W (Nat.le_trans hsz (by decide)) hW
    rw[←HT.out.2,letters_enc l (fun c hc=>((param_short hpm).2.2 c hc).elim (fun h=>hp.good c h) fun e=>by
      subst e
      rcases hfo with e|e<;>exact absurd e (by decide)),HT.out.2]at this
    exact this)
  clear hl hp hX hple hl2 hb2 hs hd hM hMM hD hP hcond hpre hb0;go_enter Tryz.func128,Tryz.ntmps128;go_wp2_with fail;clear hw2 hV
  rcases hpre2 with ⟨rfl,b1,hf1,hb1,HAT1⟩|hne
  case' inl=>
    have hcv:=conv_u8 b1 hb1;clear hb1;refine HAT.out.mono ?_;rintro e w3 ⟨rfl,m1,rfl⟩;go_wp2_with fail;refine(HAT1.out m1).mono ?_;rintro e w3 ⟨rfl,m2,rfl⟩
    go_wp2_with ((go_at_call 96;refine(rfirst_any (b1:Int) _).mono ?_;rintro e w3 ⟨rfl,rfl⟩;rw[hf1]))
    obtain⟨w5,hw5⟩:∃w5,w2.drewN (m1+m2)=w5:=⟨_,rfl⟩;have HB5:=yH (show BrAt w w5 X V q ⟨#[]⟩ ⟨#[]⟩ (.slice none 0 0) by rw[←hw5];exact HB2.out.drewN _);have HL5:=yH (show LexAt w5 X s xs by rw[←hw5];exact HL2.out.drewN _);rw[hw5];clear hw5
  case' inr=>
    have y35:((b0:Int)==35)=false:=rne hne;clear hne;refine HAT.out.mono ?_;rintro e w3 ⟨rfl,m1,rfl⟩;go_wp2_with fail;obtain⟨w5,hw5⟩:∃w5,w2.drewN m1=w5:=⟨_,rfl⟩;have HB5:=yH (show BrAt w w5 X V q ⟨#[]⟩ ⟨#[]⟩ (.slice none 0 0) by rw[←hw5];exact HB2.out.drewN _);have HL5:=yH (show LexAt w5 X s xs by rw[←hw5];exact HL2.out.drewN _);rw[hw5];clear hw5
  all_goals
    refine(rparam_any HL5.out HS.out hfo).mono ?_;intro e w6 hE;rw[hpm]at hE;obtain⟨he,hle,hk6⟩:=hE;rw[HT.out.1]at he;subst he;have HB6:=yH (HB5.out.on hk6);have HL6:=yH hle;clear hle hk6;obtain⟨d0,d1,d2,d3,d4⟩:=five_cells (HB6.out).var;have f1:=five_free HB6.out.var 1;go_wp2_with fail;obtain⟨w7,hw7⟩:∃w7,w6.setCell ⟨V,1,none⟩ (.string T)=w7:=⟨_,rfl⟩;have HB7:=yH (show BrAt w w7 X V q T ⟨#[]⟩ (.slice none 0 0) by rw[←hw7];exact HB6.out.text _);have HL7:=yH (show LexAt w7 X s (58::k::r) by rw[←hw7];exact HL6.out.var (by have:=HB2.out.hV;have:=HB2.out.hX;omega));rw[hw7];clear hw7;clear f1;clear d0 d1 d2 d3 d4;obtain⟨i7,hl7,hp7⟩:=HL7.out;have HAT7:=yH (fun m=>rat_any (hl7.drewN m) 0 (by have:=hp7.le;have:=HS.out;omega));rw[Nat.add_zero,hp7.fbn]at HAT7;have hi7:(i7:Int)≤2000:=(by have:=hp7.le;have:=HS.out;omega);rw[show fbn (58::k::r)=58 from rfl]at HAT7;have hp8:=hp7.fbn1 (by decide);have hp9:=hp8.fbn1 hk128;have HATB:=yH (fun m=>rat_any (hl7.drewN m) 1 (by have:=hp8.le;have:=HS.out;omega));rw[hp8.fbn,show fbn (k::r)=k from((fb_facts (hp8.good k (by simp))).2.2.1 hk128).1]at HATB;have hex:=Pos.extract (p:= [58,k]) hp7
    have HOP:=yH (show(⟨(enc [58,k]).toArray⟩:ByteArray)=⟨#[58,UInt8.ofNat k]⟩∧(enc [58,k]).length=2 from by
      simp only[enc,eb,if_pos hk128];exact⟨rfl,rfl⟩)
    rw[HOP.out.2,HOP.out.1]at hex;obtain⟨OP,hOP⟩:∃OP:ByteArray,(⟨#[58,UInt8.ofNat k]⟩:ByteArray)=OP:=⟨_,rfl⟩;rw[hOP]at hex;have HOPE:=yH hOP
    have hsl:∀W,(Instr.slice 9 (.string s) (some (.int .i64 (i7:Int))) (some (.int .i64 ((i7:Int)+2))) none).run Tryz.prog W= .ok (.string OP) W:=fun W=>by
      rw[run_slice_string W 9 s .i64 .i64 _ _ Tryz.underlying9 (by omega) (by omega) (by have:=hp9.le;omega),show(i7:Int).toNat=i7 by omega,show((i7:Int)+2).toNat=i7+2 by omega,hex]
    have e7:IntKind.i64.wrap ((i7:Int)+2)=(i7:Int)+2:=IntWalk.i64_in _ ⟨by omega,by omega⟩;have HL7':=yH (And.intro hl7 hp9);clear hl7 hp7 hp8 hp9 hex hOP;obtain⟨d0,d1,d2,d3,d4⟩:=five_cells (HB7.out).var;refine(HAT7.out 0).mono ?_;rintro e w9 ⟨rfl,m8,rfl⟩;go_wp2_with fail;refine(HATB.out m8).mono ?_;rintro e w9 ⟨rfl,m9,rfl⟩;rw[World.drewN_drewN];clear d0 d1 d2 d3 d4
    rcases hk with hk|hk|⟨hk,hnl⟩
    case' inl=>
      have u45:((k:Int) !=45)=false:=(by rw[hk];rfl);clear hk hk128;go_wp2_with fail;obtain⟨w12,hw12⟩:∃w12,w7.drewN (m8+m9)=w12:=⟨_,rfl⟩;have HB12:=yH (show BrAt w w12 X V q T ⟨#[]⟩ (.slice none 0 0) by rw[←hw12];exact HB7.out.drewN _);have HL12:=yH (show Lx w12 X s (i7:Int) 0 by rw[←hw12];exact HL7'.out.1.drewN _);rw[hw12];clear hw12
    case' inr.inl=>
      have u45:((k:Int) !=45)=true:=(by rw[hk];rfl);have u43:((k:Int) !=43)=false:=(by rw[hk];rfl);clear hk hk128;go_wp2_with fail;obtain⟨w12,hw12⟩:∃w12,w7.drewN (m8+m9)=w12:=⟨_,rfl⟩;have HB12:=yH (show BrAt w w12 X V q T ⟨#[]⟩ (.slice none 0 0) by rw[←hw12];exact HB7.out.drewN _);have HL12:=yH (show Lx w12 X s (i7:Int) 0 by rw[←hw12];exact HL7'.out.1.drewN _);rw[hw12];clear hw12
    case' inr.inr=>
      have u45:((k:Int) !=45)=true:=(by rw[hk];rfl);have u43:((k:Int) !=43)=true:=(by rw[hk];rfl);have u61:((k:Int) !=61)=false:=(by rw[hk];rfl);clear hk hk128;obtain⟨d0,d1,d2,d3,d4⟩:=five_cells (HB7.out.drewN (m8+m9)).var;go_wp2_with fail;refine(HNM.out _ (HL7'.out.1.drewN (m8+m9)).tabs.tabs).mono ?_;rintro e w12 ⟨rfl,hb10⟩;rw[hnl];have hk10:Kept (fun _=>False) (w7.drewN (m8+m9)) w12:=Kept.of_below hb10;have HB12:=yH ((HB7.out.drewN (m8+m9)).on (hk10.mono fun _ _ h=>h.elim));have HL12:=yH ((HL7'.out.1.drewN (m8+m9)).kept hk10 fun _ _ h=>h);clear hk10 hb10 d0 d1 d2 d3 d4;go_wp2_with fail
    all_goals
      have hlv:X<V:=(by have:=HB2.out.hV;have:=HB2.out.hX;omega);have hl13:Lx w12.drew X s (i7:Int) 0:=HL12.out.drewN 1;have hl14:Lx (w12.drew.setCell ⟨V,2,none⟩ (.string OP)) X s (i7:Int) 0:=hl13.var hlv;have t0:=hl13.c0;have t1:=hl13.c1;have p0:=hl14.c0;have p1:=hl14.c1;have q1:=hl14.fz 1;have q2:=HL12.out.fz 1;have q3:=HL12.out.c1;obtain⟨d0,d1,d2,d3,d4⟩:=five_cells HB12.out.drew.var;have f2:=five_free HB12.out.drew.var 2;have n1:¬V=X:=(by omega);have n4:¬X=V:=fun e=>n1 e.symm;have HV15:=yH (show BrAt w (((w12.setCell ⟨V,2,none⟩ (.string OP)).setCell ⟨X,1,none⟩ (.int .i64 ((i7:Int)+2))).drew) X V q T OP (.slice none 0 0)from ((HB12.out.op OP).on (Kept.setCell (D:=fun k=>k=X) (Kept.refl _ _) (.inl rfl) _)).drew);have HX15:=yH (show LexAt (((w12.setCell ⟨V,2,none⟩ (.string OP)).setCell ⟨X,1,none⟩ (.int .i64 ((i7:Int)+2))).drew) X s r from(show LexAt ((w12.setCell ⟨V,2,none⟩ (.string OP)).setCell ⟨X,1,none⟩ (.int .i64 ((i7:Int)+2))) X s r from⟨i7+1+1,(HL12.out.var hlv).put1 _,HL7'.out.2⟩).drew);clear hl13 hl14
      go_region_held (fun W=>W.cell? ⟨X,0,none⟩=some (.string s)∧W.cell? ⟨X,1,none⟩=some (.int .i64 (i7:Int))) (first|exact⟨t0,t1⟩|exact⟨p0,p1⟩|assumption) (fail)
      go_wp2_with fail;obtain⟨w13,hw13⟩:∃w13,((w12.setCell ⟨V,2,none⟩ (.string OP)).setCell ⟨X,1,none⟩ (.int .i64 ((i7:Int)+2))).drew=w13:=⟨_,rfl⟩;rw[hw13]at HV15 HX15 ⊢;clear hw13 t0 t1 p0 p1 q1 q2 q3 f2;clear d0 d1 d2 d3 d4;have hpa:=HP.out w13 X s r HX15.out HS.out;rw[HD.out,show((depth+1:Nat):Int)=(depth:Int)+1 by omega]at hpa;refine hpa.mono ?_;clear hpa;intro e w14 hE
      cases D with
      |error cc=>
        obtain⟨⟨a3,n3,k3,rfl⟩,hle,hk14⟩:=hE;have HB14:=yH (HV15.out.on hk14);have HL14:=yH hle;clear hle hk14;obtain⟨d0,d1,d2,d3,d4⟩:=five_cells (HB14.out).var;have f3:=five_free HB14.out.var 3;go_wp2_with fail;obtain⟨w17,hw17⟩:∃w17,w14.setCell ⟨V,3,none⟩ (.slice a3 n3 k3)=w17:=⟨_,rfl⟩;have HB17:=yH (show BrAt w w17 X V q T OP (.slice a3 n3 k3) by rw[←hw17];exact HB14.out.word _);have HL17:=yH (show LexErr w17 X s cc by rw[←hw17];exact HL14.out.var (by have:=HB2.out.hV;have:=HB2.out.hX;omega));rw[hw17];clear hw17;clear f3;clear d0 d1 d2 d3 d4;obtain⟨j9,hlx⟩:=(HL17.out).2;refine(rat_err hlx (HL17.out).ne.1 0).mono ?_;rintro e w9 ⟨rfl,m9,rfl⟩;go_wp2_with fail;refine(rfail_yes (hlx.drewN m9) (HL17.out).ne.2 2).mono ?_;rintro e w9 ⟨rfl,rfl⟩;have c1:=(hlx.drewN m9).c1;have g1:=(hlx.drewN m9).fz 1
        (try clear d0 d1 d2 d3 d4)
        obtain⟨d0,d1,d2,d3,d4⟩:=five_cells ((HB17.out).drewN m9).var;obtain⟨x0,x1,x2,x3,x4⟩:=five_cells ((HB17.out).drewN m9).res;have y:=five_free ((HB17.out).drewN m9).res;have y0:=y 0;have y1:=y 1;have y2:=y 2;have y3:=y 3;have y4:=y 4;have n1:¬V=X:=(by have:=((HB17.out).drewN m9).hV;have:=((HB17.out).drewN m9).hX;omega);have n2:¬w.heap.size=X:=(by have:=((HB17.out).drewN m9).hX;omega);have n3:¬V=w.heap.size:=(by have:=((HB17.out).drewN m9).hV;omega);have n4:¬X=V:=fun e=>n1 e.symm;have n5:¬X=w.heap.size:=fun e=>n2 e.symm;have n6:¬w.heap.size=V:=fun e=>n3 e.symm;clear y;go_wp2_with fail;refine bodyPost_ret (ret_one rfl (((HB17.out).drewN m9).on (Kept.setCell (D:=fun k=>k=X) (Kept.refl _ _) (.inl rfl) _)|>.fin _ _ _ _ _).1 rfl) rfl ?_;rw[HM.out];exact((HB17.out).drewN m9).end_err ((HL17.out).drewN m9) _
      |ok a=>
        obtain⟨wd,r3⟩:=a;obtain⟨v3,rfl,hwn,hle,hk14⟩:=hE;obtain⟨a3,n3,k3,rfl⟩:=wordN_shape hwn;have HB14:=yH (HV15.out.on hk14);have HL14:=yH hle
        have HW17:=yH (show WordN (w14.setCell ⟨V,3,none⟩ (.slice a3 n3 k3)) (w.heap.size+1) (.slice a3 n3 k3) wd from by
          have hvl:V<w13.heap.size:=(gS.1 HV15.out.var).1;have hvw:=HV15.out.hV
          exact(hwn.kept kept_var fun k hk=>by omega).base (by omega))
        clear hle hk14 hwn;obtain⟨d0,d1,d2,d3,d4⟩:=five_cells (HB14.out).var;have f3:=five_free HB14.out.var 3;go_wp2_with fail;obtain⟨w17,hw17⟩:∃w17,w14.setCell ⟨V,3,none⟩ (.slice a3 n3 k3)=w17:=⟨_,rfl⟩;have HB17:=yH (show BrAt w w17 X V q T OP (.slice a3 n3 k3) by rw[←hw17];exact HB14.out.word _);have HL17:=yH (show LexAt w17 X s r3 by rw[←hw17];exact HL14.out.var (by have:=HB2.out.hV;have:=HB2.out.hX;omega));rw[hw17]at HW17 ⊢;clear hw17;clear f3;clear d0 d1 d2 d3 d4;obtain⟨i9,hl9,hp9⟩:=HL17.out;have HAT7:=yH (fun m=>rat_any (hl9.drewN m) 0 (by have:=hp9.le;have:=HS.out;omega));rw[Nat.add_zero,hp9.fbn]at HAT7;have hi9:(i9:Int)≤2000:=(by have:=hp9.le;have:=HS.out;omega)
        by_cases h125:fbn r3=125
        · obtain⟨z,rfl⟩:=eq_of_fbn (by decide) hp9.good h125
          rw[show fbn (125::z)=125 from rfl]at HAT7;have HL9:=yH (And.intro hl9 hp9);clear hl9 hp9 h125;obtain⟨d0,d1,d2,d3,d4⟩:=five_cells (HB17.out).var;refine(HAT7.out 0).mono ?_;rintro e w9 ⟨rfl,m9,rfl⟩;have c1:=(HL9.out.1.drewN m9).c1;have g1:=(HL9.out.1.drewN m9).fz 1
          (try clear d0 d1 d2 d3 d4)
          obtain⟨d0,d1,d2,d3,d4⟩:=five_cells ((HB17.out).drewN m9).var;obtain⟨x0,x1,x2,x3,x4⟩:=five_cells ((HB17.out).drewN m9).res;have y:=five_free ((HB17.out).drewN m9).res;have y0:=y 0;have y1:=y 1;have y2:=y 2;have y3:=y 3;have y4:=y 4;have n1:¬V=X:=(by have:=((HB17.out).drewN m9).hV;have:=((HB17.out).drewN m9).hX;omega);have n2:¬w.heap.size=X:=(by have:=((HB17.out).drewN m9).hX;omega);have n3:¬V=w.heap.size:=(by have:=((HB17.out).drewN m9).hV;omega);have n4:¬X=V:=fun e=>n1 e.symm;have n5:¬X=w.heap.size:=fun e=>n2 e.symm;have n6:¬w.heap.size=V:=fun e=>n3 e.symm;clear y;go_wp2_with fail;refine bodyPost_ret (ret_one rfl (((HB17.out).drewN m9).on (Kept.setCell (D:=fun k=>k=X) (Kept.refl _ _) (.inl rfl) _)|>.fin _ _ _ _ _).1 rfl) rfl ?_;rw[HM.out];show BrEnd _ _ _ _ _ _ (closeM _ (125::z));rw[close_yes];exact(HB17.out.drewN m9).end_ok (HL9.out.1.drewN m9) HL9.out.2 rfl HT.out.1 (by rw[←HOPE.out];rfl) (HW17.out.kept ((Kept.refl (fun _=>False) _).drewN m9) fun _ _ h=>h)
        · have h125':next r3≠125:=fun e=>h125 ((fbn_iff hp9.good (by decide)).2 e)
          obtain⟨b,hb⟩:∃b,fbn r3=b:=⟨_,rfl⟩;rw[hb]at HAT7 h125;have y125:((b:Int)==125)=false:=rne h125;have HM2:=yH (show M= .error 2 from by rw[HM.out];exact close_no h125');have HL9:=yH hl9;clear hl9 hp9 h125 h125' hb;obtain⟨d0,d1,d2,d3,d4⟩:=five_cells (HB17.out).var;refine(HAT7.out 0).mono ?_;rintro e w9 ⟨rfl,m9,rfl⟩;go_wp2_with fail;refine(rfail_no (HL9.out.drewN m9) 2).mono ?_;rintro e w10 ⟨rfl,hl10,hk10⟩;have HB10:=yH (((HB17.out).drewN m9).on hk10);have HL10:=yH (show LexErr w10 X s 2 from⟨.inl rfl,_,hl10⟩);have c1:=hl10.c1;have g1:=hl10.fz 1;clear hl10 hk10
          (try clear d0 d1 d2 d3 d4)
          obtain⟨d0,d1,d2,d3,d4⟩:=five_cells (HB10.out).var;obtain⟨x0,x1,x2,x3,x4⟩:=five_cells (HB10.out).res;have y:=five_free (HB10.out).res;have y0:=y 0;have y1:=y 1;have y2:=y 2;have y3:=y 3;have y4:=y 4;have n1:¬V=X:=(by have:=(HB10.out).hV;have:=(HB10.out).hX;omega);have n2:¬w.heap.size=X:=(by have:=(HB10.out).hX;omega);have n3:¬V=w.heap.size:=(by have:=(HB10.out).hV;omega);have n4:¬X=V:=fun e=>n1 e.symm;have n5:¬X=w.heap.size:=fun e=>n2 e.symm;have n6:¬w.heap.size=V:=fun e=>n3 e.symm;clear y;go_wp2_with fail;refine bodyPost_ret (ret_one rfl (HB10.out.on (Kept.setCell (D:=fun k=>k=X) (Kept.refl _ _) (.inl rfl) _)|>.fin _ _ _ _ _).1 rfl) rfl ?_;rw[HM2.out];exact HB10.out.end_err HL10.out _
end Go.Proofs.YtcpmjkefbjbhpaaGreatDoor
