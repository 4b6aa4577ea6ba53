/-
  Proved: the statements' own lexer takes what stands in braces, where a parameter is not followed by an operation. Conditions: it lies in memory; the text's letters are good.
-/
import Derived.Test.YtcpmjkefbjbhpaaGreatDoorRexBraceA
namespace Go.Proofs.YtcpmjkefbjbhpaaGreatDoor
open Go Go.RowKit GlyphMath LexMath
theorem str_ne {l:List Nat} (h:l≠ []):∃T:ByteArray,txt (enc l)= .string T∧T.toList.isEmpty=false∧(⟨(enc l).toArray⟩:ByteArray)=T:=by
  refine⟨⟨(enc l).toArray⟩,rfl,?_,rfl⟩;rw[show (⟨(enc l).toArray⟩:ByteArray).toList=enc l from ByteArray.toList_mk _]
  cases he:enc l with
  |nil=>exact absurd he (enc_ne h)
  |cons _ _=>rfl
theorem braces_param {f:List Nat→Res (List Pt)} {xs l r:List Nat} (hpm:parameterM xs= .ok (l,r)):bracesM false f xs=if next r=125 then closeM ⟨2,enc l,[],[],false⟩ r else match operationM f l r with
    | .error e=> .error e
    | .ok (p,r')=>closeM p r':=by
  unfold bracesM;rw[if_neg (by decide),hpm];dsimp only
  by_cases h:next r=125
  · rw[if_pos h,if_pos h]
  · rw[if_neg h,if_neg h]
    cases operationM f l r<;>rfl
theorem op_not {nm:Bool} {r:List Nat} (h:next r≠58):opM nm r=none:=by
  have key:∀k,takes [58,k] r=none:=fun k=>by
    cases r with
    |nil=>rfl
    |cons c z=>rw[takes,if_neg fun e=>h e.symm]
  unfold opM;rw[key,key,key]
  cases nm<;>rfl
theorem op_bad {nm:Bool} {r:List Nat} (h1:next r≠45) (h2:next r≠43) (h3:next r≠61∨nm=false):opM nm (58::r)=none:=by
  have key:∀k,next r≠k→takes [58,k] (58::r)=none:=fun k hk=>by
    rw[takes,if_pos rfl,takes_one,if_neg fun e=>hk e.1]
  unfold opM;rw[key 45 h1,key 43 h2]
  rcases h3 with h3|rfl
  · rw[key 61 h3];cases nm<;>rfl
  · rfl
theorem operation_op {f:List Nat→Res (List Pt)} {l r:List Nat} (h:¬(l= [35]∧firstR (next r:Int)=true)):operationM f l r=match opM (nameL l) r with
    |none=> .error 2
    |some (o,r)=>match f r with
      | .error e=> .error e
      | .ok (w,r')=> .ok (⟨2,enc l,o,w,false⟩,r'):=by
  unfold operationM;rw[if_neg h]
  cases opM (nameL l) r with
  |none=>rfl
  |some a=>
    obtain⟨o,r⟩:=a;dsimp only
    cases f r<;>rfl
set_option maxHeartbeats 4000000 in
set_option maxRecDepth 100000 in
theorem rbrace_shut {depth:Nat} {f:List Nat→Res (List Pt)} (hd:depth<20) {w:World} {X:Nat} {s:ByteArray} {xs:List Nat} (h:LexAt w X s xs) (hs:s.size≤2000) (q:Bool) (hcond:next xs=35→firstR (next xs.tail:Int)=false) (hfo:firstR (next xs:Int)=true∨other (next xs)=true) {l:List Nat} {z:List Nat} (hpm:parameterM xs= .ok (l,125::z)):
    Calls Tryz.prog 128 #[.pointer (some ⟨X,0,none⟩),.bool q,.int .i64 (depth:Int)] w fun e w'=>BrEnd w w' e X s q (bracesM false f xs):=by
  have hM:bracesM false f xs= .ok (⟨2,enc l,[],[],false⟩,z):=by
    rw[braces_param hpm,if_pos (show next (125::z)=125 from rfl)];unfold closeM;simp[takes]
  rw[hM];obtain⟨i,hl,hp⟩:=h;have hX:=hl.lt;have hple:=hp.le;have hl2:Lx ((w.alloc (.cells #[.int .i64 0,.string ⟨#[]⟩,.string ⟨#[]⟩,.slice none 0 0,.bool false] 55)).alloc (.cells #[.int .i64 2,.string ⟨#[]⟩,.string ⟨#[]⟩,.slice none 0 0,.bool q] 55)) X s (i:Int) 0:=hl.kept (D:=fun _=>False) (Kept.of_below (((Below.refl _ w).alloc (Nat.le_refl _) _).alloc (by simp) _)) fun _ _ h=>h
  have hb2:BrAt w ((w.alloc (.cells #[.int .i64 0,.string ⟨#[]⟩,.string ⟨#[]⟩,.slice none 0 0,.bool false] 55)).alloc (.cells #[.int .i64 2,.string ⟨#[]⟩,.string ⟨#[]⟩,.slice none 0 0,.bool q] 55)) X (w.heap.size+1) q ⟨#[]⟩ ⟨#[]⟩ (.slice none 0 0):=by
    refine⟨(Below.heap_alloc _ _ _ (by simp)).trans (heap_alloc_new w ZB),?_,Kept.of_below (((Below.refl _ w).alloc (Nat.le_refl _) _).alloc (by simp) _),by omega,hX⟩;have:=heap_alloc_new (w.alloc (.cells #[.int .i64 0,.string ⟨#[]⟩,.string ⟨#[]⟩,.slice none 0 0,.bool false] 55)) (.cells #[.int .i64 2,.string ⟨#[]⟩,.string ⟨#[]⟩,.slice none 0 0,.bool q] 55)
    rwa [show (w.alloc (.cells #[.int .i64 0,.string ⟨#[]⟩,.string ⟨#[]⟩,.slice none 0 0,.bool false] 55)).heap.size=w.heap.size+1 by simp]at this
  obtain⟨w2,hw2⟩:∃w2,(w.alloc (.cells #[.int .i64 0,.string ⟨#[]⟩,.string ⟨#[]⟩,.slice none 0 0,.bool false] 55)).alloc (.cells #[.int .i64 2,.string ⟨#[]⟩,.string ⟨#[]⟩,.slice none 0 0,.bool q] 55)=w2:=⟨_,rfl⟩;obtain⟨V,hV⟩:∃V,w.heap.size+1=V:=⟨_,rfl⟩;rw[hw2]at hl2 hb2;rw[hV]at hb2;have HB2:=yH hb2;have HL2:=yH (show LexAt w2 X s xs from⟨i,hl2,hp⟩);have HAT:=yH (rat_any hl2 0 (by omega));rw[Nat.add_zero,hp.fbn]at HAT;have HV:=yH hV;have HS:=yH hs;have hdd:decide ((20:Int)≤(depth:Int))=false:=decide_eq_false (by omega);have hd2:(depth:Int)≤20:=(by omega)
  have hpre:(∃r,xs=35::r∧firstR (fbn r:Int)=false)∨fbn xs≠35:=by
    by_cases e:fbn xs=35
    · obtain⟨r,hr⟩:=eq_of_fbn (by decide) hp.good e
      left;refine⟨r,hr,?_⟩;rw[firstR_fbn (fun x hx=>hp.good x (by rw[hr];simp[hx]))];rw[hr]at hcond;exact hcond rfl
    · exact .inr e
  have hpre2:(fbn xs=35∧∃b1:Nat,firstR (b1:Int)=false∧b1<256∧RowKit.Hid (∀m,Calls Tryz.prog 85 #[.pointer (some ⟨X,0,none⟩),.int .i64 1] (w2.drewN m) fun e w'=>e= .returned (.int .u8 (b1:Int))∧∃m',w'=(w2.drewN m).drewN m'))∨fbn xs≠35:=by
    rcases hpre with ⟨r,rfl,hf1⟩|e
    · left
      have hp1:=hp.fbn1 (by decide);refine⟨rfl,fbn r,hf1,fbn_lt hp1.good,yH fun m=> ?_⟩;have h1:=rat_any (hl2.drewN m) 1 (by have:=hp1.le;omega);rw[hp1.fbn]at h1;exact h1
    · exact .inr e
  obtain⟨b0,hb0⟩:∃b0,fbn xs=b0:=⟨_,rfl⟩;rw[hb0]at HAT hpre2;obtain⟨T,hT,hTe,hTa⟩:=str_ne (param_short hpm).1;have HT:=yH (And.intro hT hTa);clear hT hTa;clear hl hp hX hple hl2 hb2 hs hd hM hcond hpre hb0;go_enter Tryz.func128,Tryz.ntmps128;go_wp2_with fail;clear hw2 hV
  rcases hpre2 with ⟨rfl,b1,hf1,hb1,HAT1⟩|hne
  case' inl=>
    have hcv:=conv_u8 b1 hb1;clear hb1;refine HAT.out.mono ?_;rintro e w3 ⟨rfl,m1,rfl⟩;go_wp2_with fail;refine(HAT1.out m1).mono ?_;rintro e w3 ⟨rfl,m2,rfl⟩
    go_wp2_with ((go_at_call 96;refine(rfirst_any (b1:Int) _).mono ?_;rintro e w3 ⟨rfl,rfl⟩;rw[hf1]))
    obtain⟨w5,hw5⟩:∃w5,w2.drewN (m1+m2)=w5:=⟨_,rfl⟩;have HB5:=yH (show BrAt w w5 X V q ⟨#[]⟩ ⟨#[]⟩ (.slice none 0 0) by rw[←hw5];exact HB2.out.drewN _);have HL5:=yH (show LexAt w5 X s xs by rw[←hw5];exact HL2.out.drewN _);rw[hw5];clear hw5
  case' inr=>
    have y35:((b0:Int)==35)=false:=rne hne;clear hne;refine HAT.out.mono ?_;rintro e w3 ⟨rfl,m1,rfl⟩;go_wp2_with fail;obtain⟨w5,hw5⟩:∃w5,w2.drewN m1=w5:=⟨_,rfl⟩;have HB5:=yH (show BrAt w w5 X V q ⟨#[]⟩ ⟨#[]⟩ (.slice none 0 0) by rw[←hw5];exact HB2.out.drewN _);have HL5:=yH (show LexAt w5 X s xs by rw[←hw5];exact HL2.out.drewN _);rw[hw5];clear hw5
  all_goals
    refine(rparam_any HL5.out HS.out hfo).mono ?_;intro e w6 hE;rw[hpm]at hE;obtain⟨he,hle,hk6⟩:=hE;rw[HT.out.1]at he;subst he;have HB6:=yH (HB5.out.on hk6);have HL6:=yH hle;clear hle hk6;obtain⟨d0,d1,d2,d3,d4⟩:=five_cells (HB6.out).var;have f1:=five_free HB6.out.var 1;go_wp2_with fail;obtain⟨w7,hw7⟩:∃w7,w6.setCell ⟨V,1,none⟩ (.string T)=w7:=⟨_,rfl⟩;have HB7:=yH (show BrAt w w7 X V q T ⟨#[]⟩ (.slice none 0 0) by rw[←hw7];exact HB6.out.text _);have HL7:=yH (show LexAt w7 X s (125::z) by rw[←hw7];exact HL6.out.var (by have:=HB2.out.hV;have:=HB2.out.hX;omega));rw[hw7];clear hw7;clear f1;clear d0 d1 d2 d3 d4;obtain⟨i7,hl7,hp7⟩:=HL7.out;have HAT7:=yH (fun m=>rat_any (hl7.drewN m) 0 (by have:=hp7.le;have:=HS.out;omega));rw[Nat.add_zero,hp7.fbn]at HAT7;have hi7:(i7:Int)≤2000:=(by have:=hp7.le;have:=HS.out;omega);rw[show fbn (125::z)=125 from rfl]at HAT7;have HL7':=yH (And.intro hl7 hp7);clear hl7 hp7;obtain⟨d0,d1,d2,d3,d4⟩:=five_cells (HB7.out).var;refine(HAT7.out 0).mono ?_;rintro e w9 ⟨rfl,m8,rfl⟩;go_wp2_with fail;refine(HAT7.out m8).mono ?_;rintro e w9 ⟨rfl,m9,rfl⟩;rw[World.drewN_drewN];have c1:=(HL7'.out.1.drewN (m8+m9)).c1;have g1:=(HL7'.out.1.drewN (m8+m9)).fz 1
    (try clear d0 d1 d2 d3 d4)
    obtain⟨d0,d1,d2,d3,d4⟩:=five_cells ((HB7.out).drewN (m8+m9)).var;obtain⟨x0,x1,x2,x3,x4⟩:=five_cells ((HB7.out).drewN (m8+m9)).res;have y:=five_free ((HB7.out).drewN (m8+m9)).res;have y0:=y 0;have y1:=y 1;have y2:=y 2;have y3:=y 3;have y4:=y 4;have n1:¬V=X:=(by have:=((HB7.out).drewN (m8+m9)).hV;have:=((HB7.out).drewN (m8+m9)).hX;omega);have n2:¬w.heap.size=X:=(by have:=((HB7.out).drewN (m8+m9)).hX;omega);have n3:¬V=w.heap.size:=(by have:=((HB7.out).drewN (m8+m9)).hV;omega);have n4:¬X=V:=fun e=>n1 e.symm;have n5:¬X=w.heap.size:=fun e=>n2 e.symm;have n6:¬w.heap.size=V:=fun e=>n3 e.symm;clear y;go_wp2_with fail;refine bodyPost_ret (ret_one rfl (((HB7.out).drewN (m8+m9)).on (Kept.setCell (D:=fun k=>k=X) (Kept.refl _ _) (.inl rfl) _)|>.fin _ _ _ _ _).1 rfl) rfl ?_;exact(HB7.out.drewN (m8+m9)).end_ok (HL7'.out.1.drewN (m8+m9)) HL7'.out.2 rfl HT.out.1 rfl (WordN.nil _ _)
set_option maxHeartbeats 4000000 in
set_option maxRecDepth 100000 in
theorem rbrace_odd {depth:Nat} {f:List Nat→Res (List Pt)} (hd:depth<20) {w:World} {X:Nat} {s:ByteArray} {xs:List Nat} (h:LexAt w X s xs) (hs:s.size≤2000) (q:Bool) (hcond:next xs=35→firstR (next xs.tail:Int)=false) (hfo:firstR (next xs:Int)=true∨other (next xs)=true) {l:List Nat} {r:List Nat} (hpm:parameterM xs= .ok (l,r)) (hno:¬(l= [35]∧firstR (next r:Int)=true)) (h125:next r≠125) (h58:next r≠58):
    Calls Tryz.prog 128 #[.pointer (some ⟨X,0,none⟩),.bool q,.int .i64 (depth:Int)] w fun e w'=>BrEnd w w' e X s q (bracesM false f xs):=by
  have hM:bracesM false f xs= .error 2:=by
    rw[braces_param hpm,if_neg h125,operation_op hno,op_not h58]
  rw[hM];obtain⟨i,hl,hp⟩:=h;have hX:=hl.lt;have hple:=hp.le;have hl2:Lx ((w.alloc (.cells #[.int .i64 0,.string ⟨#[]⟩,.string ⟨#[]⟩,.slice none 0 0,.bool false] 55)).alloc (.cells #[.int .i64 2,.string ⟨#[]⟩,.string ⟨#[]⟩,.slice none 0 0,.bool q] 55)) X s (i:Int) 0:=hl.kept (D:=fun _=>False) (Kept.of_below (((Below.refl _ w).alloc (Nat.le_refl _) _).alloc (by simp) _)) fun _ _ h=>h
  have hb2:BrAt w ((w.alloc (.cells #[.int .i64 0,.string ⟨#[]⟩,.string ⟨#[]⟩,.slice none 0 0,.bool false] 55)).alloc (.cells #[.int .i64 2,.string ⟨#[]⟩,.string ⟨#[]⟩,.slice none 0 0,.bool q] 55)) X (w.heap.size+1) q ⟨#[]⟩ ⟨#[]⟩ (.slice none 0 0):=by
    refine⟨(Below.heap_alloc _ _ _ (by simp)).trans (heap_alloc_new w ZB),?_,Kept.of_below (((Below.refl _ w).alloc (Nat.le_refl _) _).alloc (by simp) _),by omega,hX⟩;have:=heap_alloc_new (w.alloc (.cells #[.int .i64 0,.string ⟨#[]⟩,.string ⟨#[]⟩,.slice none 0 0,.bool false] 55)) (.cells #[.int .i64 2,.string ⟨#[]⟩,.string ⟨#[]⟩,.slice none 0 0,.bool q] 55)
    rwa [show (w.alloc (.cells #[.int .i64 0,.string ⟨#[]⟩,.string ⟨#[]⟩,.slice none 0 0,.bool false] 55)).heap.size=w.heap.size+1 by simp]at this
  obtain⟨w2,hw2⟩:∃w2,(w.alloc (.cells #[.int .i64 0,.string ⟨#[]⟩,.string ⟨#[]⟩,.slice none 0 0,.bool false] 55)).alloc (.cells #[.int .i64 2,.string ⟨#[]⟩,.string ⟨#[]⟩,.slice none 0 0,.bool q] 55)=w2:=⟨_,rfl⟩;obtain⟨V,hV⟩:∃V,w.heap.size+1=V:=⟨_,rfl⟩;rw[hw2]at hl2 hb2;rw[hV]at hb2;have HB2:=yH hb2;have HL2:=yH (show LexAt w2 X s xs from⟨i,hl2,hp⟩);have HAT:=yH (rat_any hl2 0 (by omega));rw[Nat.add_zero,hp.fbn]at HAT;have HV:=yH hV;have HS:=yH hs;have hdd:decide ((20:Int)≤(depth:Int))=false:=decide_eq_false (by omega);have hd2:(depth:Int)≤20:=(by omega)
  have hpre:(∃r,xs=35::r∧firstR (fbn r:Int)=false)∨fbn xs≠35:=by
    by_cases e:fbn xs=35
    · obtain⟨r,hr⟩:=eq_of_fbn (by decide) hp.good e
      left;refine⟨r,hr,?_⟩;rw[firstR_fbn (fun x hx=>hp.good x (by rw[hr];simp[hx]))];rw[hr]at hcond;exact hcond rfl
    · exact .inr e
  have hpre2:(fbn xs=35∧∃b1:Nat,firstR (b1:Int)=false∧b1<256∧RowKit.Hid (∀m,Calls Tryz.prog 85 #[.pointer (some ⟨X,0,none⟩),.int .i64 1] (w2.drewN m) fun e w'=>e= .returned (.int .u8 (b1:Int))∧∃m',w'=(w2.drewN m).drewN m'))∨fbn xs≠35:=by
    rcases hpre with ⟨r,rfl,hf1⟩|e
    · left
      have hp1:=hp.fbn1 (by decide);refine⟨rfl,fbn r,hf1,fbn_lt hp1.good,yH fun m=> ?_⟩;have h1:=rat_any (hl2.drewN m) 1 (by have:=hp1.le;omega);rw[hp1.fbn]at h1;exact h1
    · exact .inr e
  obtain⟨b0,hb0⟩:∃b0,fbn xs=b0:=⟨_,rfl⟩;rw[hb0]at HAT hpre2;obtain⟨T,hT,hTe,hTa⟩:=str_ne (param_short hpm).1;have HT:=yH (And.intro hT hTa);clear hT hTa;clear hl hp hX hple hl2 hb2 hs hd hM hcond hpre hb0 hno;go_enter Tryz.func128,Tryz.ntmps128;go_wp2_with fail;clear hw2 hV
  rcases hpre2 with ⟨rfl,b1,hf1,hb1,HAT1⟩|hne
  case' inl=>
    have hcv:=conv_u8 b1 hb1;clear hb1;refine HAT.out.mono ?_;rintro e w3 ⟨rfl,m1,rfl⟩;go_wp2_with fail;refine(HAT1.out m1).mono ?_;rintro e w3 ⟨rfl,m2,rfl⟩
    go_wp2_with ((go_at_call 96;refine(rfirst_any (b1:Int) _).mono ?_;rintro e w3 ⟨rfl,rfl⟩;rw[hf1]))
    obtain⟨w5,hw5⟩:∃w5,w2.drewN (m1+m2)=w5:=⟨_,rfl⟩;have HB5:=yH (show BrAt w w5 X V q ⟨#[]⟩ ⟨#[]⟩ (.slice none 0 0) by rw[←hw5];exact HB2.out.drewN _);have HL5:=yH (show LexAt w5 X s xs by rw[←hw5];exact HL2.out.drewN _);rw[hw5];clear hw5
  case' inr=>
    have y35:((b0:Int)==35)=false:=rne hne;clear hne;refine HAT.out.mono ?_;rintro e w3 ⟨rfl,m1,rfl⟩;go_wp2_with fail;obtain⟨w5,hw5⟩:∃w5,w2.drewN m1=w5:=⟨_,rfl⟩;have HB5:=yH (show BrAt w w5 X V q ⟨#[]⟩ ⟨#[]⟩ (.slice none 0 0) by rw[←hw5];exact HB2.out.drewN _);have HL5:=yH (show LexAt w5 X s xs by rw[←hw5];exact HL2.out.drewN _);rw[hw5];clear hw5
  all_goals
    refine(rparam_any HL5.out HS.out hfo).mono ?_;intro e w6 hE;rw[hpm]at hE;obtain⟨he,hle,hk6⟩:=hE;rw[HT.out.1]at he;subst he;have HB6:=yH (HB5.out.on hk6);have HL6:=yH hle;clear hle hk6;obtain⟨d0,d1,d2,d3,d4⟩:=five_cells (HB6.out).var;have f1:=five_free HB6.out.var 1;go_wp2_with fail;obtain⟨w7,hw7⟩:∃w7,w6.setCell ⟨V,1,none⟩ (.string T)=w7:=⟨_,rfl⟩;have HB7:=yH (show BrAt w w7 X V q T ⟨#[]⟩ (.slice none 0 0) by rw[←hw7];exact HB6.out.text _);have HL7:=yH (show LexAt w7 X s r by rw[←hw7];exact HL6.out.var (by have:=HB2.out.hV;have:=HB2.out.hX;omega));rw[hw7];clear hw7;clear f1;clear d0 d1 d2 d3 d4;obtain⟨i7,hl7,hp7⟩:=HL7.out;have HAT7:=yH (fun m=>rat_any (hl7.drewN m) 0 (by have:=hp7.le;have:=HS.out;omega));rw[Nat.add_zero,hp7.fbn]at HAT7;have hi7:(i7:Int)≤2000:=(by have:=hp7.le;have:=HS.out;omega);have m125:fbn r≠125:=fun e=>h125 ((fbn_iff hp7.good (by decide)).1 e);have m58:fbn r≠58:=fun e=>h58 ((fbn_iff hp7.good (by decide)).1 e);obtain⟨b,hb⟩:∃b,fbn r=b:=⟨_,rfl⟩;rw[hb]at HAT7 m125 m58;have y125:((b:Int)==125)=false:=rne m125;have y58:((b:Int)==58)=false:=rne m58;have HL7':=yH hl7;clear hl7 hp7 hb m125 m58 h125 h58;obtain⟨d0,d1,d2,d3,d4⟩:=five_cells (HB7.out).var;refine(HAT7.out 0).mono ?_;rintro e w9 ⟨rfl,m8,rfl⟩;go_wp2_with fail;refine(HAT7.out m8).mono ?_;rintro e w9 ⟨rfl,m9,rfl⟩;rw[World.drewN_drewN];go_wp2_with fail;refine(rfail_no (HL7'.out.drewN (m8+m9)) 2).mono ?_;rintro e w10 ⟨rfl,hl10,hk10⟩;have HB10:=yH (((HB7.out).drewN (m8+m9)).on hk10);have HL10:=yH (show LexErr w10 X s 2 from⟨.inl rfl,_,hl10⟩);have c1:=hl10.c1;have g1:=hl10.fz 1;clear hl10 hk10
    (try clear d0 d1 d2 d3 d4)
    obtain⟨d0,d1,d2,d3,d4⟩:=five_cells (HB10.out).var;obtain⟨x0,x1,x2,x3,x4⟩:=five_cells (HB10.out).res;have y:=five_free (HB10.out).res;have y0:=y 0;have y1:=y 1;have y2:=y 2;have y3:=y 3;have y4:=y 4;have n1:¬V=X:=(by have:=(HB10.out).hV;have:=(HB10.out).hX;omega);have n2:¬w.heap.size=X:=(by have:=(HB10.out).hX;omega);have n3:¬V=w.heap.size:=(by have:=(HB10.out).hV;omega);have n4:¬X=V:=fun e=>n1 e.symm;have n5:¬X=w.heap.size:=fun e=>n2 e.symm;have n6:¬w.heap.size=V:=fun e=>n3 e.symm;clear y;go_wp2_with fail;refine bodyPost_ret (ret_one rfl (HB10.out.on (Kept.setCell (D:=fun k=>k=X) (Kept.refl _ _) (.inl rfl) _)|>.fin _ _ _ _ _).1 rfl) rfl ?_;exact HB10.out.end_err HL10.out _
set_option maxHeartbeats 4000000 in
set_option maxRecDepth 100000 in
theorem rbrace_bad {depth:Nat} {f:List Nat→Res (List Pt)} (hd:depth<20) {w:World} {X:Nat} {s:ByteArray} {xs:List Nat} (h:LexAt w X s xs) (hs:s.size≤2000) (q:Bool) (hcond:next xs=35→firstR (next xs.tail:Int)=false) (hfo:firstR (next xs:Int)=true∨other (next xs)=true) {l:List Nat} {r:List Nat} (hpm:parameterM xs= .ok (l,58::r)) (h45:next r≠45) (h43:next r≠43) (h61:next r≠61∨nameL l=false):
    Calls Tryz.prog 128 #[.pointer (some ⟨X,0,none⟩),.bool q,.int .i64 (depth:Int)] w fun e w'=>BrEnd w w' e X s q (bracesM false f xs):=by
  have hM:bracesM false f xs= .error 2:=by
    rw[braces_param hpm,if_neg (show ¬next (58::r)=125 from(by decide:¬(58:Nat)=125)),operation_op (r:=58::r) (fun e=>absurd (show firstR ((58:Nat):Int)=true from e.2) (by decide)),op_bad h45 h43 h61]
  rw[hM];obtain⟨i,hl,hp⟩:=h;have hX:=hl.lt;have hple:=hp.le;have hl2:Lx ((w.alloc (.cells #[.int .i64 0,.string ⟨#[]⟩,.string ⟨#[]⟩,.slice none 0 0,.bool false] 55)).alloc (.cells #[.int .i64 2,.string ⟨#[]⟩,.string ⟨#[]⟩,.slice none 0 0,.bool q] 55)) X s (i:Int) 0:=hl.kept (D:=fun _=>False) (Kept.of_below (((Below.refl _ w).alloc (Nat.le_refl _) _).alloc (by simp) _)) fun _ _ h=>h
  have hb2:BrAt w ((w.alloc (.cells #[.int .i64 0,.string ⟨#[]⟩,.string ⟨#[]⟩,.slice none 0 0,.bool false] 55)).alloc (.cells #[.int .i64 2,.string ⟨#[]⟩,.string ⟨#[]⟩,.slice none 0 0,.bool q] 55)) X (w.heap.size+1) q ⟨#[]⟩ ⟨#[]⟩ (.slice none 0 0):=by
    refine⟨(Below.heap_alloc _ _ _ (by simp)).trans (heap_alloc_new w ZB),?_,Kept.of_below (((Below.refl _ w).alloc (Nat.le_refl _) _).alloc (by simp) _),by omega,hX⟩;have:=heap_alloc_new (w.alloc (.cells #[.int .i64 0,.string ⟨#[]⟩,.string ⟨#[]⟩,.slice none 0 0,.bool false] 55)) (.cells #[.int .i64 2,.string ⟨#[]⟩,.string ⟨#[]⟩,.slice none 0 0,.bool q] 55)
    rwa [show (w.alloc (.cells #[.int .i64 0,.string ⟨#[]⟩,.string ⟨#[]⟩,.slice none 0 0,.bool false] 55)).heap.size=w.heap.size+1 by simp]at this
  obtain⟨w2,hw2⟩:∃w2,(w.alloc (.cells #[.int .i64 0,.string ⟨#[]⟩,.string ⟨#[]⟩,.slice none 0 0,.bool false] 55)).alloc (.cells #[.int .i64 2,.string ⟨#[]⟩,.string ⟨#[]⟩,.slice none 0 0,.bool q] 55)=w2:=⟨_,rfl⟩;obtain⟨V,hV⟩:∃V,w.heap.size+1=V:=⟨_,rfl⟩;rw[hw2]at hl2 hb2;rw[hV]at hb2;have HB2:=yH hb2;have HL2:=yH (show LexAt w2 X s xs from⟨i,hl2,hp⟩);have HAT:=yH (rat_any hl2 0 (by omega));rw[Nat.add_zero,hp.fbn]at HAT;have HV:=yH hV;have HS:=yH hs;have hdd:decide ((20:Int)≤(depth:Int))=false:=decide_eq_false (by omega);have hd2:(depth:Int)≤20:=(by omega)
  have hpre:(∃r,xs=35::r∧firstR (fbn r:Int)=false)∨fbn xs≠35:=by
    by_cases e:fbn xs=35
    · obtain⟨r,hr⟩:=eq_of_fbn (by decide) hp.good e
      left;refine⟨r,hr,?_⟩;rw[firstR_fbn (fun x hx=>hp.good x (by rw[hr];simp[hx]))];rw[hr]at hcond;exact hcond rfl
    · exact .inr e
  have hpre2:(fbn xs=35∧∃b1:Nat,firstR (b1:Int)=false∧b1<256∧RowKit.Hid (∀m,Calls Tryz.prog 85 #[.pointer (some ⟨X,0,none⟩),.int .i64 1] (w2.drewN m) fun e w'=>e= .returned (.int .u8 (b1:Int))∧∃m',w'=(w2.drewN m).drewN m'))∨fbn xs≠35:=by
    rcases hpre with ⟨r,rfl,hf1⟩|e
    · left
      have hp1:=hp.fbn1 (by decide);refine⟨rfl,fbn r,hf1,fbn_lt hp1.good,yH fun m=> ?_⟩;have h1:=rat_any (hl2.drewN m) 1 (by have:=hp1.le;omega);rw[hp1.fbn]at h1;exact h1
    · exact .inr e
  obtain⟨b0,hb0⟩:∃b0,fbn xs=b0:=⟨_,rfl⟩;rw[hb0]at HAT hpre2;obtain⟨T,hT,hTe,hTa⟩:=str_ne (param_short hpm).1;have HT:=yH (And.intro hT hTa);clear hT hTa
  have HNM:=yH (fun (W:World) (hW:Tabs W)=>by
    have hsz:T.size≤1000:=by
      have h1:=(enc_length l).2;have h2:=(param_short hpm).2.1;rw[←HT.out.2,bytes_size];omega
    have:=rname_any T W (Nat.le_trans hsz (by decide)) hW
    rw[←HT.out.2,letters_enc l (fun c hc=>((param_short hpm).2.2 c hc).elim (fun h=>hp.good c h) fun e=>by
      subst e
      rcases hfo with e|e<;>exact absurd e (by decide)),HT.out.2]at this
    exact this)
  clear hl hp hX hple hl2 hb2 hs hd hM hcond hpre hb0;go_enter Tryz.func128,Tryz.ntmps128;go_wp2_with fail;clear hw2 hV
  rcases hpre2 with ⟨rfl,b1,hf1,hb1,HAT1⟩|hne
  case' inl=>
    have hcv:=conv_u8 b1 hb1;clear hb1;refine HAT.out.mono ?_;rintro e w3 ⟨rfl,m1,rfl⟩;go_wp2_with fail;refine(HAT1.out m1).mono ?_;rintro e w3 ⟨rfl,m2,rfl⟩
    go_wp2_with ((go_at_call 96;refine(rfirst_any (b1:Int) _).mono ?_;rintro e w3 ⟨rfl,rfl⟩;rw[hf1]))
    obtain⟨w5,hw5⟩:∃w5,w2.drewN (m1+m2)=w5:=⟨_,rfl⟩;have HB5:=yH (show BrAt w w5 X V q ⟨#[]⟩ ⟨#[]⟩ (.slice none 0 0) by rw[←hw5];exact HB2.out.drewN _);have HL5:=yH (show LexAt w5 X s xs by rw[←hw5];exact HL2.out.drewN _);rw[hw5];clear hw5
  case' inr=>
    have y35:((b0:Int)==35)=false:=rne hne;clear hne;refine HAT.out.mono ?_;rintro e w3 ⟨rfl,m1,rfl⟩;go_wp2_with fail;obtain⟨w5,hw5⟩:∃w5,w2.drewN m1=w5:=⟨_,rfl⟩;have HB5:=yH (show BrAt w w5 X V q ⟨#[]⟩ ⟨#[]⟩ (.slice none 0 0) by rw[←hw5];exact HB2.out.drewN _);have HL5:=yH (show LexAt w5 X s xs by rw[←hw5];exact HL2.out.drewN _);rw[hw5];clear hw5
  all_goals
    refine(rparam_any HL5.out HS.out hfo).mono ?_;intro e w6 hE;rw[hpm]at hE;obtain⟨he,hle,hk6⟩:=hE;rw[HT.out.1]at he;subst he;have HB6:=yH (HB5.out.on hk6);have HL6:=yH hle;clear hle hk6;obtain⟨d0,d1,d2,d3,d4⟩:=five_cells (HB6.out).var;have f1:=five_free HB6.out.var 1;go_wp2_with fail;obtain⟨w7,hw7⟩:∃w7,w6.setCell ⟨V,1,none⟩ (.string T)=w7:=⟨_,rfl⟩;have HB7:=yH (show BrAt w w7 X V q T ⟨#[]⟩ (.slice none 0 0) by rw[←hw7];exact HB6.out.text _);have HL7:=yH (show LexAt w7 X s (58::r) by rw[←hw7];exact HL6.out.var (by have:=HB2.out.hV;have:=HB2.out.hX;omega));rw[hw7];clear hw7;clear f1;clear d0 d1 d2 d3 d4;obtain⟨i7,hl7,hp7⟩:=HL7.out;have HAT7:=yH (fun m=>rat_any (hl7.drewN m) 0 (by have:=hp7.le;have:=HS.out;omega));rw[Nat.add_zero,hp7.fbn]at HAT7;have hi7:(i7:Int)≤2000:=(by have:=hp7.le;have:=HS.out;omega);rw[show fbn (58::r)=58 from rfl]at HAT7;have hp8:=hp7.fbn1 (by decide);have HATB:=yH (fun m=>rat_any (hl7.drewN m) 1 (by have:=hp8.le;have:=HS.out;omega));rw[hp8.fbn]at HATB;have m45:fbn r≠45:=fun e=>h45 ((fbn_iff hp8.good (by decide)).1 e);have m43:fbn r≠43:=fun e=>h43 ((fbn_iff hp8.good (by decide)).1 e);have m61:fbn r=61→nameL l=false:=fun e=>h61.resolve_left fun e2=>e2 ((fbn_iff hp8.good (by decide)).1 e);obtain⟨b,hb⟩:∃b,fbn r=b:=⟨_,rfl⟩;rw[hb]at HATB m45 m43 m61;have y45:((b:Int)==45)=false:=rne m45;have y43:((b:Int)==43)=false:=rne m43;have HL7':=yH hl7;clear hl7 hp7 hp8 hb m45 m43 h45 h43 h61;obtain⟨d0,d1,d2,d3,d4⟩:=five_cells (HB7.out).var;refine(HAT7.out 0).mono ?_;rintro e w9 ⟨rfl,m8,rfl⟩;go_wp2_with fail;refine(HATB.out m8).mono ?_;rintro e w9 ⟨rfl,m9,rfl⟩;rw[World.drewN_drewN]
    by_cases m:b=61
    · subst m
      have hnl:=m61 rfl;clear d0 d1 d2 d3 d4;obtain⟨d0,d1,d2,d3,d4⟩:=five_cells (HB7.out.drewN (m8+m9)).var;go_wp2_with fail;refine(HNM.out _ (HL7'.out.drewN (m8+m9)).tabs.tabs).mono ?_;rintro e w10 ⟨rfl,hb10⟩;rw[hnl];have hk10:Kept (fun _=>False) (w7.drewN (m8+m9)) w10:=Kept.of_below hb10;have HB10:=yH ((HB7.out.drewN (m8+m9)).on (hk10.mono fun _ _ h=>h.elim));have hl10:=(HL7'.out.drewN (m8+m9)).kept hk10 fun _ _ h=>h;clear d0 d1 d2 d3 d4;go_wp2_with fail;refine(rfail_no hl10 2).mono ?_;rintro e w11 ⟨rfl,hl11,hk11⟩;have HB11:=yH (HB10.out.on hk11);have HL11:=yH (show LexErr w11 X s 2 from⟨.inl rfl,_,hl11⟩);clear hl10 hl11 hk11 hk10 hb10;obtain⟨d0,d1,d2,d3,d4⟩:=five_cells (HB11.out).var;obtain⟨x0,x1,x2,x3,x4⟩:=five_cells (HB11.out).res;have y:=five_free (HB11.out).res;have y0:=y 0;have y1:=y 1;have y2:=y 2;have y3:=y 3;have y4:=y 4;have n1:¬V=X:=(by have:=(HB11.out).hV;have:=(HB11.out).hX;omega);have n2:¬w.heap.size=X:=(by have:=(HB11.out).hX;omega);have n3:¬V=w.heap.size:=(by have:=(HB11.out).hV;omega);have n4:¬X=V:=fun e=>n1 e.symm;have n5:¬X=w.heap.size:=fun e=>n2 e.symm;have n6:¬w.heap.size=V:=fun e=>n3 e.symm;clear y;go_wp2_with fail;refine bodyPost_ret (ret_one rfl (HB11.out.fin _ _ _ _ _).1 rfl) rfl ?_;exact HB11.out.end0 HL11.out
    · have y61:((b:Int)==61)=false:=rne m
      clear d0 d1 d2 d3 d4;have u45:((b:Int) !=45)=true:=(by simpa using y45);have u43:((b:Int) !=43)=true:=(by simpa using y43);have u61:((b:Int) !=61)=true:=(by simpa using y61);clear m m61 y45 y43 y61;go_wp2_with fail;refine(rfail_no (HL7'.out.drewN (m8+m9)) 2).mono ?_;rintro e w11 ⟨rfl,hl11,hk11⟩;have HB11:=yH ((HB7.out.drewN (m8+m9)).on hk11);have HL11:=yH (show LexErr w11 X s 2 from⟨.inl rfl,_,hl11⟩);clear hl11 hk11;obtain⟨d0,d1,d2,d3,d4⟩:=five_cells (HB11.out).var;obtain⟨x0,x1,x2,x3,x4⟩:=five_cells (HB11.out).res;have y:=five_free (HB11.out).res;have y0:=y 0;have y1:=y 1;have y2:=y 2;have y3:=y 3;have y4:=y 4;have n1:¬V=X:=(by have:=(HB11.out).hV;have:=(HB11.out).hX;omega);have n2:¬w.heap.size=X:=(by have:=(HB11.out).hX;omega);have n3:¬V=w.heap.size:=(by have:=(HB11.out).hV;omega);have n4:¬X=V:=fun e=>n1 e.symm;have n5:¬X=w.heap.size:=fun e=>n2 e.symm;have n6:¬w.heap.size=V:=fun e=>n3 e.symm;clear y;go_wp2_with fail;refine bodyPost_ret (ret_one rfl (HB11.out.fin _ _ _ _ _).1 rfl) rfl ?_;exact HB11.out.end0 HL11.out
end Go.Proofs.YtcpmjkefbjbhpaaGreatDoor
