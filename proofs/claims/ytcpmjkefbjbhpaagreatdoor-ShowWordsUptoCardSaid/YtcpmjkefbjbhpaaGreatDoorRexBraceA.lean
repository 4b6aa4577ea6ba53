/-
  Proved: the statements' own lexer takes what stands in braces, where its parameter is none. Conditions: it lies in memory; the text's letters are good.
-/
import Derived.Test.YtcpmjkefbjbhpaaGreatDoorSw40
namespace Go.Proofs.YtcpmjkefbjbhpaaGreatDoor
open Go Go.RowKit GlyphMath LexMath
theorem no_name {xs:List Nat} (hf:firstR (next xs:Int)=false):nameL (got (fun r=> !moreR (r:Int)) xs)=false:=by
  cases xs with
  |nil=>rfl
  |cons c r=>
    have hf:firstR (c:Int)=false:=hf
    cases hm:moreR (c:Int)with
    |true=>
      rw[show got (fun r=> !moreR (r:Int)) (c::r)=c::got (fun r=> !moreR (r:Int)) r by rw[got];simp[hm]];show(firstR (c:Int)&&_&&_)=false;rw[hf];rfl
    |false=>
      rw[show got (fun r=> !moreR (r:Int)) (c::r)= [] by rw[got];simp[hm]];rfl
theorem nameL_short {l:List Nat} (h:nameL l=true):l≠ []∧l.length≤12:=by
  cases l with
  |nil=>cases h
  |cons a r=>
    have h2:(firstR (a:Int)&&(a::r).all (fun (x:Nat)=>moreR x)&&decide ((a::r).length≤12))=true:=h;simp only[Bool.and_eq_true,decide_eq_true_eq]at h2;exact⟨by simp,h2.2⟩
theorem param_short {xs l r:List Nat} (h:parameterM xs= .ok (l,r)):l≠ []∧l.length≤12∧∀c∈l,c∈xs∨xs= []:=by
  unfold parameterM at h
  cases ho:other (next xs)with
  |true=>
    rw[ho,if_pos rfl]at h
    cases h
    refine⟨by simp,by simp,fun c hc=> ?_⟩
    cases xs with
    |nil=>exact .inr rfl
    |cons a z=>left;simp at hc;rw[hc];simp[next]
  |false=>
    rw[ho,if_neg (by decide)]at h
    cases hn:nameL (got (fun r=> !moreR (r:Int)) xs)with
    |false=>rw[hn,if_neg (by decide)]at h;cases h
    |true=>
      rw[hn,if_pos rfl]at h
      cases h
      obtain⟨h1,h2⟩:=nameL_short hn;exact⟨h1,h2,fun c hc=> .inl (by rw[←got_left (fun r=> !moreR (r:Int)) xs];exact List.mem_append_left _ hc)⟩
theorem enc_ne {l:List Nat} (h:l≠ []):enc l≠ []:=by
  cases l with
  |nil=>exact absurd rfl h
  |cons c r=>
    intro e;have h1:=eb_length c;have h2:=congrArg List.length e;rw[enc,List.length_append,List.length_nil]at h2;omega
set_option maxHeartbeats 4000000 in
set_option maxRecDepth 100000 in
theorem rbrace_none {depth:Nat} {f:List Nat→Res (List Pt)} (hd:depth<20) {w:World} {X:Nat} {s:ByteArray} {xs:List Nat} (h:LexAt w X s xs) (hs:s.size≤2000) (q:Bool) (hcond:next xs=35→firstR (next xs.tail:Int)=false) (hf:firstR (next xs:Int)=false) (ho:other (next xs)=false):
    Calls Tryz.prog 128 #[.pointer (some ⟨X,0,none⟩),.bool q,.int .i64 (depth:Int)] w fun e w'=>BrEnd w w' e X s q (bracesM false f xs):=by
  have hM:bracesM false f xs= .error 2:=by
    have hp:parameterM xs= .error 2:=by
      unfold parameterM;rw[ho,show nameL (got (fun r=> !moreR (r:Int)) xs)=false from no_name hf];rfl
    unfold bracesM;rw[if_neg (by decide),hp]
  rw[hM];obtain⟨i,hl,hp⟩:=h;have hX:=hl.lt;have hple:=hp.le;have hl2:Lx ((w.alloc (.cells #[.int .i64 0,.string ⟨#[]⟩,.string ⟨#[]⟩,.slice none 0 0,.bool false] 55)).alloc (.cells #[.int .i64 2,.string ⟨#[]⟩,.string ⟨#[]⟩,.slice none 0 0,.bool q] 55)) X s (i:Int) 0:=hl.kept (D:=fun _=>False) (Kept.of_below (((Below.refl _ w).alloc (Nat.le_refl _) _).alloc (by simp) _)) fun _ _ h=>h
  have hb2:BrAt w ((w.alloc (.cells #[.int .i64 0,.string ⟨#[]⟩,.string ⟨#[]⟩,.slice none 0 0,.bool false] 55)).alloc (.cells #[.int .i64 2,.string ⟨#[]⟩,.string ⟨#[]⟩,.slice none 0 0,.bool q] 55)) X (w.heap.size+1) q ⟨#[]⟩ ⟨#[]⟩ (.slice none 0 0):=by
    refine⟨(Below.heap_alloc _ _ _ (by simp)).trans (heap_alloc_new w ZB),?_,Kept.of_below (((Below.refl _ w).alloc (Nat.le_refl _) _).alloc (by simp) _),by omega,hX⟩;have:=heap_alloc_new (w.alloc (.cells #[.int .i64 0,.string ⟨#[]⟩,.string ⟨#[]⟩,.slice none 0 0,.bool false] 55)) (.cells #[.int .i64 2,.string ⟨#[]⟩,.string ⟨#[]⟩,.slice none 0 0,.bool q] 55)
    rwa [show (w.alloc (.cells #[.int .i64 0,.string ⟨#[]⟩,.string ⟨#[]⟩,.slice none 0 0,.bool false] 55)).heap.size=w.heap.size+1 by simp]at this
  obtain⟨w2,hw2⟩:∃w2,(w.alloc (.cells #[.int .i64 0,.string ⟨#[]⟩,.string ⟨#[]⟩,.slice none 0 0,.bool false] 55)).alloc (.cells #[.int .i64 2,.string ⟨#[]⟩,.string ⟨#[]⟩,.slice none 0 0,.bool q] 55)=w2:=⟨_,rfl⟩;obtain⟨V,hV⟩:∃V,w.heap.size+1=V:=⟨_,rfl⟩;rw[hw2]at hl2 hb2;rw[hV]at hb2;have HB2:=yH hb2;have HL2:=yH (show LexAt w2 X s xs from⟨i,hl2,hp⟩);have HAT:=yH (rat_any hl2 0 (by omega));rw[Nat.add_zero,hp.fbn]at HAT;have HV:=yH hV;have HS:=yH hs;have hdd:decide ((20:Int)≤(depth:Int))=false:=decide_eq_false (by omega);have hd2:(depth:Int)≤20:=(by omega)
  have hpre:(∃r,xs=35::r∧firstR (fbn r:Int)=false)∨fbn xs≠35:=by
    by_cases e:fbn xs=35
    · obtain⟨r,hr⟩:=eq_of_fbn (by decide) hp.good e
      left;refine⟨r,hr,?_⟩;rw[firstR_fbn (fun x hx=>hp.good x (by rw[hr];simp[hx]))];rw[hr]at hcond;exact hcond rfl
    · exact .inr e
  have hpre2:(fbn xs=35∧∃b1:Nat,firstR (b1:Int)=false∧b1<256∧RowKit.Hid (∀m,Calls Tryz.prog 85 #[.pointer (some ⟨X,0,none⟩),.int .i64 1] (w2.drewN m) fun e w'=>e= .returned (.int .u8 (b1:Int))∧∃m',w'=(w2.drewN m).drewN m'))∨fbn xs≠35:=by
    rcases hpre with ⟨r,rfl,hf1⟩|e
    · left
      have hp1:=hp.fbn1 (by decide);refine⟨rfl,fbn r,hf1,fbn_lt hp1.good,yH fun m=> ?_⟩;have h1:=rat_any (hl2.drewN m) 1 (by have:=hp1.le;omega);rw[hp1.fbn]at h1;exact h1
    · exact .inr e
  obtain⟨b0,hb0⟩:∃b0,fbn xs=b0:=⟨_,rfl⟩;rw[hb0]at HAT hpre2;clear hl hp hX hple hl2 hb2 hs hd hM hcond hpre hb0;go_enter Tryz.func128,Tryz.ntmps128;go_wp2_with fail;clear hw2 hV
  rcases hpre2 with ⟨rfl,b1,hf1,hb1,HAT1⟩|hne
  case' inl=>
    have hcv:=conv_u8 b1 hb1;clear hb1;refine HAT.out.mono ?_;rintro e w3 ⟨rfl,m1,rfl⟩;go_wp2_with fail;refine(HAT1.out m1).mono ?_;rintro e w3 ⟨rfl,m2,rfl⟩
    go_wp2_with ((go_at_call 96;refine(rfirst_any (b1:Int) _).mono ?_;rintro e w3 ⟨rfl,rfl⟩;rw[hf1]))
    obtain⟨w5,hw5⟩:∃w5,w2.drewN (m1+m2)=w5:=⟨_,rfl⟩;have HB5:=yH (show BrAt w w5 X V q ⟨#[]⟩ ⟨#[]⟩ (.slice none 0 0) by rw[←hw5];exact HB2.out.drewN _);have HL5:=yH (show LexAt w5 X s xs by rw[←hw5];exact HL2.out.drewN _);rw[hw5];clear hw5
  case' inr=>
    have y35:((b0:Int)==35)=false:=rne hne;clear hne;refine HAT.out.mono ?_;rintro e w3 ⟨rfl,m1,rfl⟩;go_wp2_with fail;obtain⟨w5,hw5⟩:∃w5,w2.drewN m1=w5:=⟨_,rfl⟩;have HB5:=yH (show BrAt w w5 X V q ⟨#[]⟩ ⟨#[]⟩ (.slice none 0 0) by rw[←hw5];exact HB2.out.drewN _);have HL5:=yH (show LexAt w5 X s xs by rw[←hw5];exact HL2.out.drewN _);rw[hw5];clear hw5
  all_goals
    refine(rparam_none HL5.out HS.out hf ho).mono ?_;rintro e w6 ⟨rfl,m3,rfl⟩;obtain⟨d0,d1,d2,d3,d4⟩:=five_cells (HB5.out.drewN m3).var;have f1:=five_free (HB5.out.drewN m3).var 1;go_wp2_with fail;obtain⟨w7,hw7⟩:∃w7,(w5.drewN m3).setCell ⟨V,1,none⟩ (.string ⟨#[]⟩)=w7:=⟨_,rfl⟩;have HB7:=yH (show BrAt w w7 X V q ⟨#[]⟩ ⟨#[]⟩ (.slice none 0 0) by rw[←hw7];exact(HB5.out.drewN _).text _);have HL7:=yH (show LexAt w7 X s xs by rw[←hw7];exact(HL5.out.drewN _).var (by have:=HB2.out.hV;have:=HB2.out.hX;omega));rw[hw7];clear hw7;clear f1;clear d0 d1 d2 d3 d4;obtain⟨i7,hl7, -⟩:=HL7.out;refine(rfail_no hl7 2).mono ?_;rintro e w8 ⟨rfl,hl8,hk8⟩;have HB8:=yH (HB7.out.on hk8);have HL8:=yH (show LexErr w8 X s 2 from⟨.inl rfl,_,hl8⟩);clear hl7 hl8 hk8;obtain⟨d0,d1,d2,d3,d4⟩:=five_cells (HB8.out).var;go_wp2_with fail;obtain⟨j9,hlx⟩:=(HL8.out).2;refine(rat_err hlx (HL8.out).ne.1 0).mono ?_;rintro e w9 ⟨rfl,m8,rfl⟩;go_wp2_with fail;refine(rat_err (hlx.drewN m8) (HL8.out).ne.1 0).mono ?_;rintro e w9 ⟨rfl,m9,rfl⟩;rw[World.drewN_drewN];go_wp2_with fail;refine(rfail_yes (hlx.drewN (m8+m9)) (HL8.out).ne.2 2).mono ?_;rintro e w9 ⟨rfl,rfl⟩;have c1:=(hlx.drewN (m8+m9)).c1;have g1:=(hlx.drewN (m8+m9)).fz 1
    (try clear d0 d1 d2 d3 d4)
    obtain⟨d0,d1,d2,d3,d4⟩:=five_cells ((HB8.out).drewN (m8+m9)).var;obtain⟨x0,x1,x2,x3,x4⟩:=five_cells ((HB8.out).drewN (m8+m9)).res;have y:=five_free ((HB8.out).drewN (m8+m9)).res;have y0:=y 0;have y1:=y 1;have y2:=y 2;have y3:=y 3;have y4:=y 4;have n1:¬V=X:=(by have:=((HB8.out).drewN (m8+m9)).hV;have:=((HB8.out).drewN (m8+m9)).hX;omega);have n2:¬w.heap.size=X:=(by have:=((HB8.out).drewN (m8+m9)).hX;omega);have n3:¬V=w.heap.size:=(by have:=((HB8.out).drewN (m8+m9)).hV;omega);have n4:¬X=V:=fun e=>n1 e.symm;have n5:¬X=w.heap.size:=fun e=>n2 e.symm;have n6:¬w.heap.size=V:=fun e=>n3 e.symm;clear y;go_wp2_with fail;refine bodyPost_ret (ret_one rfl (((HB8.out).drewN (m8+m9)).on (Kept.setCell (D:=fun k=>k=X) (Kept.refl _ _) (.inl rfl) _)|>.fin _ _ _ _ _).1 rfl) rfl ?_;exact((HB8.out).drewN (m8+m9)).end_err ((HL8.out).drewN (m8+m9)) _
set_option maxHeartbeats 4000000 in
set_option maxRecDepth 100000 in
theorem rbrace_perr {depth:Nat} {f:List Nat→Res (List Pt)} (hd:depth<20) {w:World} {X:Nat} {s:ByteArray} {xs:List Nat} (h:LexAt w X s xs) (hs:s.size≤2000) (q:Bool) (hcond:next xs=35→firstR (next xs.tail:Int)=false) (hfo:firstR (next xs:Int)=true∨other (next xs)=true) {cc:Nat} (hpm:parameterM xs= .error cc):
    Calls Tryz.prog 128 #[.pointer (some ⟨X,0,none⟩),.bool q,.int .i64 (depth:Int)] w fun e w'=>BrEnd w w' e X s q (bracesM false f xs):=by
  have hM:bracesM false f xs= .error cc:=by
    unfold bracesM;rw[if_neg (by decide),hpm]
  rw[hM];obtain⟨i,hl,hp⟩:=h;have hX:=hl.lt;have hple:=hp.le;have hl2:Lx ((w.alloc (.cells #[.int .i64 0,.string ⟨#[]⟩,.string ⟨#[]⟩,.slice none 0 0,.bool false] 55)).alloc (.cells #[.int .i64 2,.string ⟨#[]⟩,.string ⟨#[]⟩,.slice none 0 0,.bool q] 55)) X s (i:Int) 0:=hl.kept (D:=fun _=>False) (Kept.of_below (((Below.refl _ w).alloc (Nat.le_refl _) _).alloc (by simp) _)) fun _ _ h=>h
  have hb2:BrAt w ((w.alloc (.cells #[.int .i64 0,.string ⟨#[]⟩,.string ⟨#[]⟩,.slice none 0 0,.bool false] 55)).alloc (.cells #[.int .i64 2,.string ⟨#[]⟩,.string ⟨#[]⟩,.slice none 0 0,.bool q] 55)) X (w.heap.size+1) q ⟨#[]⟩ ⟨#[]⟩ (.slice none 0 0):=by
    refine⟨(Below.heap_alloc _ _ _ (by simp)).trans (heap_alloc_new w ZB),?_,Kept.of_below (((Below.refl _ w).alloc (Nat.le_refl _) _).alloc (by simp) _),by omega,hX⟩;have:=heap_alloc_new (w.alloc (.cells #[.int .i64 0,.string ⟨#[]⟩,.string ⟨#[]⟩,.slice none 0 0,.bool false] 55)) (.cells #[.int .i64 2,.string ⟨#[]⟩,.string ⟨#[]⟩,.slice none 0 0,.bool q] 55)
    rwa [show (w.alloc (.cells #[.int .i64 0,.string ⟨#[]⟩,.string ⟨#[]⟩,.slice none 0 0,.bool false] 55)).heap.size=w.heap.size+1 by simp]at this
  obtain⟨w2,hw2⟩:∃w2,(w.alloc (.cells #[.int .i64 0,.string ⟨#[]⟩,.string ⟨#[]⟩,.slice none 0 0,.bool false] 55)).alloc (.cells #[.int .i64 2,.string ⟨#[]⟩,.string ⟨#[]⟩,.slice none 0 0,.bool q] 55)=w2:=⟨_,rfl⟩;obtain⟨V,hV⟩:∃V,w.heap.size+1=V:=⟨_,rfl⟩;rw[hw2]at hl2 hb2;rw[hV]at hb2;have HB2:=yH hb2;have HL2:=yH (show LexAt w2 X s xs from⟨i,hl2,hp⟩);have HAT:=yH (rat_any hl2 0 (by omega));rw[Nat.add_zero,hp.fbn]at HAT;have HV:=yH hV;have HS:=yH hs;have hdd:decide ((20:Int)≤(depth:Int))=false:=decide_eq_false (by omega);have hd2:(depth:Int)≤20:=(by omega)
  have hpre:(∃r,xs=35::r∧firstR (fbn r:Int)=false)∨fbn xs≠35:=by
    by_cases e:fbn xs=35
    · obtain⟨r,hr⟩:=eq_of_fbn (by decide) hp.good e
      left;refine⟨r,hr,?_⟩;rw[firstR_fbn (fun x hx=>hp.good x (by rw[hr];simp[hx]))];rw[hr]at hcond;exact hcond rfl
    · exact .inr e
  have hpre2:(fbn xs=35∧∃b1:Nat,firstR (b1:Int)=false∧b1<256∧RowKit.Hid (∀m,Calls Tryz.prog 85 #[.pointer (some ⟨X,0,none⟩),.int .i64 1] (w2.drewN m) fun e w'=>e= .returned (.int .u8 (b1:Int))∧∃m',w'=(w2.drewN m).drewN m'))∨fbn xs≠35:=by
    rcases hpre with ⟨r,rfl,hf1⟩|e
    · left
      have hp1:=hp.fbn1 (by decide);refine⟨rfl,fbn r,hf1,fbn_lt hp1.good,yH fun m=> ?_⟩;have h1:=rat_any (hl2.drewN m) 1 (by have:=hp1.le;omega);rw[hp1.fbn]at h1;exact h1
    · exact .inr e
  obtain⟨b0,hb0⟩:∃b0,fbn xs=b0:=⟨_,rfl⟩;rw[hb0]at HAT hpre2;clear hl hp hX hple hl2 hb2 hs hd hM hcond hpre hb0;go_enter Tryz.func128,Tryz.ntmps128;go_wp2_with fail;clear hw2 hV
  rcases hpre2 with ⟨rfl,b1,hf1,hb1,HAT1⟩|hne
  case' inl=>
    have hcv:=conv_u8 b1 hb1;clear hb1;refine HAT.out.mono ?_;rintro e w3 ⟨rfl,m1,rfl⟩;go_wp2_with fail;refine(HAT1.out m1).mono ?_;rintro e w3 ⟨rfl,m2,rfl⟩
    go_wp2_with ((go_at_call 96;refine(rfirst_any (b1:Int) _).mono ?_;rintro e w3 ⟨rfl,rfl⟩;rw[hf1]))
    obtain⟨w5,hw5⟩:∃w5,w2.drewN (m1+m2)=w5:=⟨_,rfl⟩;have HB5:=yH (show BrAt w w5 X V q ⟨#[]⟩ ⟨#[]⟩ (.slice none 0 0) by rw[←hw5];exact HB2.out.drewN _);have HL5:=yH (show LexAt w5 X s xs by rw[←hw5];exact HL2.out.drewN _);rw[hw5];clear hw5
  case' inr=>
    have y35:((b0:Int)==35)=false:=rne hne;clear hne;refine HAT.out.mono ?_;rintro e w3 ⟨rfl,m1,rfl⟩;go_wp2_with fail;obtain⟨w5,hw5⟩:∃w5,w2.drewN m1=w5:=⟨_,rfl⟩;have HB5:=yH (show BrAt w w5 X V q ⟨#[]⟩ ⟨#[]⟩ (.slice none 0 0) by rw[←hw5];exact HB2.out.drewN _);have HL5:=yH (show LexAt w5 X s xs by rw[←hw5];exact HL2.out.drewN _);rw[hw5];clear hw5
  all_goals
    refine(rparam_any HL5.out HS.out hfo).mono ?_;intro e w6 hE;rw[hpm]at hE;obtain⟨⟨T,rfl⟩,hle,hk6⟩:=hE;have HB6:=yH (HB5.out.on hk6);have HL6:=yH hle;clear hle hk6;obtain⟨d0,d1,d2,d3,d4⟩:=five_cells (HB6.out).var;have f1:=five_free HB6.out.var 1
    cases hT:T.toList.isEmpty with
    |true=>
      go_wp2_with fail;obtain⟨w7,hw7⟩:∃w7,w6.setCell ⟨V,1,none⟩ (.string T)=w7:=⟨_,rfl⟩;have HB7:=yH (show BrAt w w7 X V q T ⟨#[]⟩ (.slice none 0 0) by rw[←hw7];exact HB6.out.text _);have HL7:=yH (show LexErr w7 X s cc by rw[←hw7];exact HL6.out.var (by have:=HB2.out.hV;have:=HB2.out.hX;omega));rw[hw7];clear hw7;clear f1;clear d0 d1 d2 d3 d4;obtain⟨j9,hlx⟩:=HL7.out.2;refine(rfail_yes hlx HL7.out.ne.2 2).mono ?_;rintro e w8 ⟨rfl,rfl⟩;clear hlx;obtain⟨d0,d1,d2,d3,d4⟩:=five_cells (HB7.out).var;go_wp2_with fail;obtain⟨j9,hlx⟩:=(HL7.out).2;refine(rat_err hlx (HL7.out).ne.1 0).mono ?_;rintro e w9 ⟨rfl,m8,rfl⟩;go_wp2_with fail;refine(rat_err (hlx.drewN m8) (HL7.out).ne.1 0).mono ?_;rintro e w9 ⟨rfl,m9,rfl⟩;rw[World.drewN_drewN];go_wp2_with fail;refine(rfail_yes (hlx.drewN (m8+m9)) (HL7.out).ne.2 2).mono ?_;rintro e w9 ⟨rfl,rfl⟩;have c1:=(hlx.drewN (m8+m9)).c1;have g1:=(hlx.drewN (m8+m9)).fz 1
      (try clear d0 d1 d2 d3 d4)
      obtain⟨d0,d1,d2,d3,d4⟩:=five_cells ((HB7.out).drewN (m8+m9)).var;obtain⟨x0,x1,x2,x3,x4⟩:=five_cells ((HB7.out).drewN (m8+m9)).res;have y:=five_free ((HB7.out).drewN (m8+m9)).res;have y0:=y 0;have y1:=y 1;have y2:=y 2;have y3:=y 3;have y4:=y 4;have n1:¬V=X:=(by have:=((HB7.out).drewN (m8+m9)).hV;have:=((HB7.out).drewN (m8+m9)).hX;omega);have n2:¬w.heap.size=X:=(by have:=((HB7.out).drewN (m8+m9)).hX;omega);have n3:¬V=w.heap.size:=(by have:=((HB7.out).drewN (m8+m9)).hV;omega);have n4:¬X=V:=fun e=>n1 e.symm;have n5:¬X=w.heap.size:=fun e=>n2 e.symm;have n6:¬w.heap.size=V:=fun e=>n3 e.symm;clear y;go_wp2_with fail;refine bodyPost_ret (ret_one rfl (((HB7.out).drewN (m8+m9)).on (Kept.setCell (D:=fun k=>k=X) (Kept.refl _ _) (.inl rfl) _)|>.fin _ _ _ _ _).1 rfl) rfl ?_;exact((HB7.out).drewN (m8+m9)).end_err ((HL7.out).drewN (m8+m9)) _
    |false=>
      go_wp2_with fail;obtain⟨w7,hw7⟩:∃w7,w6.setCell ⟨V,1,none⟩ (.string T)=w7:=⟨_,rfl⟩;have HB7:=yH (show BrAt w w7 X V q T ⟨#[]⟩ (.slice none 0 0) by rw[←hw7];exact HB6.out.text _);have HL7:=yH (show LexErr w7 X s cc by rw[←hw7];exact HL6.out.var (by have:=HB2.out.hV;have:=HB2.out.hX;omega));rw[hw7];clear hw7;clear f1;clear d0 d1 d2 d3 d4;obtain⟨j9,hlx⟩:=(HL7.out).2;refine(rat_err hlx (HL7.out).ne.1 0).mono ?_;rintro e w9 ⟨rfl,m8,rfl⟩;go_wp2_with fail;refine(rat_err (hlx.drewN m8) (HL7.out).ne.1 0).mono ?_;rintro e w9 ⟨rfl,m9,rfl⟩;rw[World.drewN_drewN];go_wp2_with fail;refine(rfail_yes (hlx.drewN (m8+m9)) (HL7.out).ne.2 2).mono ?_;rintro e w9 ⟨rfl,rfl⟩;have c1:=(hlx.drewN (m8+m9)).c1;have g1:=(hlx.drewN (m8+m9)).fz 1
      (try clear d0 d1 d2 d3 d4)
      obtain⟨d0,d1,d2,d3,d4⟩:=five_cells ((HB7.out).drewN (m8+m9)).var;obtain⟨x0,x1,x2,x3,x4⟩:=five_cells ((HB7.out).drewN (m8+m9)).res;have y:=five_free ((HB7.out).drewN (m8+m9)).res;have y0:=y 0;have y1:=y 1;have y2:=y 2;have y3:=y 3;have y4:=y 4;have n1:¬V=X:=(by have:=((HB7.out).drewN (m8+m9)).hV;have:=((HB7.out).drewN (m8+m9)).hX;omega);have n2:¬w.heap.size=X:=(by have:=((HB7.out).drewN (m8+m9)).hX;omega);have n3:¬V=w.heap.size:=(by have:=((HB7.out).drewN (m8+m9)).hV;omega);have n4:¬X=V:=fun e=>n1 e.symm;have n5:¬X=w.heap.size:=fun e=>n2 e.symm;have n6:¬w.heap.size=V:=fun e=>n3 e.symm;clear y;go_wp2_with fail;refine bodyPost_ret (ret_one rfl (((HB7.out).drewN (m8+m9)).on (Kept.setCell (D:=fun k=>k=X) (Kept.refl _ _) (.inl rfl) _)|>.fin _ _ _ _ _).1 rfl) rfl ?_;exact((HB7.out).drewN (m8+m9)).end_err ((HL7.out).drewN (m8+m9)) _
end Go.Proofs.YtcpmjkefbjbhpaaGreatDoor
