/-
  Proved: contracts of functions, plain facts. Conditions: as each says.
-/
import Derived.Test.YtcpmjkefbjbhpaaGreatDoorRexBraceC
import Derived.Test.YtcpmjkefbjbhpaaGreatDoorSw13
import Derived.Test.YtcpmjkefbjbhpaaGreatDoorLexCore
namespace Go.Proofs.YtcpmjkefbjbhpaaGreatDoor
open Go Go.RowKit GlyphMath LexMath
theorem braces_hash {f:List Nat→Res (List Pt)} {r:List Nat} (hf:firstR (next r:Int)=true):bracesM false f (35::r)=match nameM r with
    | .error e=> .error e
    | .ok (l',r')=>closeM ⟨2,enc l',[35],[],false⟩ r':=by
  have hp:parameterM (35::r)= .ok ([35],r):=by unfold parameterM;rw[show other (next (35::r))=true from(by decide:other 35=true),if_pos rfl];rfl
  have ho:other (next r)=false:=by
    cases e:other (next r)with
    |false=>rfl
    |true=>
      exfalso;unfold other at e;unfold firstR at hf;simp at e hf;omega
  rw[braces_param hp,if_neg fun e=>by rw[e]at hf;exact absurd hf (by decide)];unfold operationM;rw[if_pos ⟨rfl,hf⟩,param_name hf ho]
  cases nameM r<;>rfl
theorem name_short {r l r':List Nat} (hf:firstR (next r:Int)=true) (h:nameM r= .ok (l,r')):l≠ []:=by
  unfold nameM at h
  split at h
  · cases h
    cases r with
    |nil=>exact absurd hf (by decide)
    |cons c z=>
      have hm:moreR (c:Int)=true:=(by unfold moreR;rw[show firstR (c:Int)=true from hf];rfl);rw[got];simp[hm]
  · cases h
set_option maxHeartbeats 4000000 in
set_option maxRecDepth 100000 in
theorem rbrace_herr {depth:Nat} {f:List Nat→Res (List Pt)} (hd:depth<20) {w:World} {X:Nat} {s:ByteArray} {r:List Nat} (h:LexAt w X s (35::r)) (hs:s.size≤2000) (q:Bool) (hf:firstR (next r:Int)=true) {cc:Nat} (hnm:nameM r= .error cc):
    Calls Tryz.prog 128 #[.pointer (some ⟨X,0,none⟩),.bool q,.int .i64 (depth:Int)] w fun e w'=>BrEnd w w' e X s q (bracesM false f (35::r)):=by
  have hM:bracesM false f (35::r)= .error cc:=(by rw[braces_hash hf,hnm]);rw[hM];obtain⟨i,hl,hp⟩:=h;have hX:=hl.lt;have hple:=hp.le;have hl2:Lx ((w.alloc (.cells #[.int .i64 0,.string ⟨#[]⟩,.string ⟨#[]⟩,.slice none 0 0,.bool false] 55)).alloc (.cells #[.int .i64 2,.string ⟨#[]⟩,.string ⟨#[]⟩,.slice none 0 0,.bool q] 55)) X s (i:Int) 0:=hl.kept (D:=fun _=>False) (Kept.of_below (((Below.refl _ w).alloc (Nat.le_refl _) _).alloc (by simp) _)) fun _ _ h=>h
  have hb2:BrAt w ((w.alloc (.cells #[.int .i64 0,.string ⟨#[]⟩,.string ⟨#[]⟩,.slice none 0 0,.bool false] 55)).alloc (.cells #[.int .i64 2,.string ⟨#[]⟩,.string ⟨#[]⟩,.slice none 0 0,.bool q] 55)) X (w.heap.size+1) q ⟨#[]⟩ ⟨#[]⟩ (.slice none 0 0):=by
    refine⟨(Below.heap_alloc _ _ _ (by simp)).trans (heap_alloc_new w ZB),?_,Kept.of_below (((Below.refl _ w).alloc (Nat.le_refl _) _).alloc (by simp) _),by omega,hX⟩;have:=heap_alloc_new (w.alloc (.cells #[.int .i64 0,.string ⟨#[]⟩,.string ⟨#[]⟩,.slice none 0 0,.bool false] 55)) (.cells #[.int .i64 2,.string ⟨#[]⟩,.string ⟨#[]⟩,.slice none 0 0,.bool q] 55)
    rwa [show (w.alloc (.cells #[.int .i64 0,.string ⟨#[]⟩,.string ⟨#[]⟩,.slice none 0 0,.bool false] 55)).heap.size=w.heap.size+1 by simp]at this
  obtain⟨w2,hw2⟩:∃w2,(w.alloc (.cells #[.int .i64 0,.string ⟨#[]⟩,.string ⟨#[]⟩,.slice none 0 0,.bool false] 55)).alloc (.cells #[.int .i64 2,.string ⟨#[]⟩,.string ⟨#[]⟩,.slice none 0 0,.bool q] 55)=w2:=⟨_,rfl⟩;obtain⟨V,hV⟩:∃V,w.heap.size+1=V:=⟨_,rfl⟩;rw[hw2]at hl2 hb2;rw[hV]at hb2;have HB2:=yH hb2;have HL2:=yH (show LexAt w2 X s (35::r)from ⟨i,hl2,hp⟩);have HAT:=yH (rat_any hl2 0 (by omega));rw[Nat.add_zero,hp.fbn]at HAT;have HV:=yH hV;have HS:=yH hs;have hdd:decide ((20:Int)≤(depth:Int))=false:=decide_eq_false (by omega);have hd2:(depth:Int)≤20:=(by omega);rw[show fbn (35::r)=35 from rfl]at HAT;have hp1:=hp.fbn1 (by decide);have HAT1:=yH (fun m=>rat_any (hl2.drewN m) 1 (by have:=hp1.le;omega));rw[hp1.fbn]at HAT1;have hcv:=conv_u8 _ (fbn_lt hp1.good);have hff:=hf;rw[←firstR_fbn hp1.good]at hff;obtain⟨b1,hb1⟩:∃b1,fbn r=b1:=⟨_,rfl⟩;rw[hb1]at HAT1 hcv hff;have hi2:(i:Int)+1≤2000:=(by have:=hp1.le;omega);have HLX:=yH (And.intro hl2 hp1);clear hl hp hX hple hl2 hb2 hs hd hM hp1 hb1;go_enter Tryz.func128,Tryz.ntmps128;go_wp2_with fail;clear hw2 hV;refine HAT.out.mono ?_;rintro e w3 ⟨rfl,m1,rfl⟩;go_wp2_with fail;refine(HAT1.out m1).mono ?_;rintro e w3 ⟨rfl,m2,rfl⟩;rw[World.drewN_drewN];have c1:=(HLX.out.1.drewN (m1+m2)).c1;have g1:=(HLX.out.1.drewN (m1+m2)).fz 1;obtain⟨d0,d1,d2,d3,d4⟩:=five_cells (HB2.out.drewN (m1+m2)).var;have f2:=five_free (HB2.out.drewN (m1+m2)).var 2;have n1:¬V=X:=(by have:=HB2.out.hV;have:=HB2.out.hX;omega);have n4:¬X=V:=fun e=>n1 e.symm
  go_wp2_with ((go_at_call 96;refine(rfirst_any (b1:Int) _).mono ?_;rintro e w3 ⟨rfl,rfl⟩;rw[hff]))
  obtain⟨w5,hw5⟩:∃w5,(((w2.drewN (m1+m2)).setCell ⟨X,1,none⟩ (.int .i64 ((i:Int)+1))).setCell ⟨V,2,none⟩ (.string ⟨#[35]⟩))=w5:=⟨_,rfl⟩;have HB5:=yH (show BrAt w w5 X V q ⟨#[]⟩ ⟨#[35]⟩ (.slice none 0 0) by rw[←hw5];exact((HB2.out.drewN _).on (Kept.setCell (D:=fun k=>k=X) (Kept.refl _ _) (.inl rfl) _)).op _);have HL5:=yH (show LexAt w5 X s r by rw[←hw5];exact(show LexAt ((w2.drewN (m1+m2)).setCell ⟨X,1,none⟩ (.int .i64 ((i:Int)+1))) X s r from⟨i+1,(HLX.out.1.drewN _).put1 _,HLX.out.2⟩).var (by have:=HB2.out.hV;have:=HB2.out.hX;omega));rw[hw5];clear hw5 c1 g1 f2 n1 n4 d0 d1 d2 d3 d4;refine(lname_any HL5.out HS.out hf).mono ?_;intro e w6 hE;rw[hnm]at hE;obtain⟨⟨T,rfl⟩,hle,hk6⟩:=hE;have HB6:=yH (HB5.out.on hk6);have HL6:=yH hle;clear hle hk6;obtain⟨d0,d1,d2,d3,d4⟩:=five_cells (HB6.out).var;have f1:=five_free HB6.out.var 1
  cases hT:T.toList.isEmpty with
  |true=>
    go_wp2_with fail;obtain⟨w7,hw7⟩:∃w7,w6.setCell ⟨V,1,none⟩ (.string T)=w7:=⟨_,rfl⟩;have HB7:=yH (show BrAt w w7 X V q T ⟨#[35]⟩ (.slice none 0 0) by rw[←hw7];exact HB6.out.text _);have HL7:=yH (show LexErr w7 X s cc by rw[←hw7];exact HL6.out.var (by have:=HB2.out.hV;have:=HB2.out.hX;omega));rw[hw7];clear hw7;clear f1;clear d0 d1 d2 d3 d4;obtain⟨j9,hlx⟩:=HL7.out.2;refine(rfail_yes hlx HL7.out.ne.2 2).mono ?_;rintro e w8 ⟨rfl,rfl⟩;clear hlx;obtain⟨d0,d1,d2,d3,d4⟩:=five_cells (HB7.out).var;go_wp2_with fail;obtain⟨j9,hlx⟩:=(HL7.out).2;refine(rat_err hlx (HL7.out).ne.1 0).mono ?_;rintro e w9 ⟨rfl,m9,rfl⟩;go_wp2_with fail;refine(rfail_yes (hlx.drewN m9) (HL7.out).ne.2 2).mono ?_;rintro e w9 ⟨rfl,rfl⟩;have c1:=(hlx.drewN m9).c1;have g1:=(hlx.drewN m9).fz 1
    (try clear d0 d1 d2 d3 d4)
    obtain⟨d0,d1,d2,d3,d4⟩:=five_cells ((HB7.out).drewN m9).var;obtain⟨x0,x1,x2,x3,x4⟩:=five_cells ((HB7.out).drewN m9).res;have y:=five_free ((HB7.out).drewN m9).res;have y0:=y 0;have y1:=y 1;have y2:=y 2;have y3:=y 3;have y4:=y 4;have n1:¬V=X:=(by have:=((HB7.out).drewN m9).hV;have:=((HB7.out).drewN m9).hX;omega);have n2:¬w.heap.size=X:=(by have:=((HB7.out).drewN m9).hX;omega);have n3:¬V=w.heap.size:=(by have:=((HB7.out).drewN m9).hV;omega);have n4:¬X=V:=fun e=>n1 e.symm;have n5:¬X=w.heap.size:=fun e=>n2 e.symm;have n6:¬w.heap.size=V:=fun e=>n3 e.symm;clear y;go_wp2_with fail;refine bodyPost_ret (ret_one rfl (((HB7.out).drewN m9).on (Kept.setCell (D:=fun k=>k=X) (Kept.refl _ _) (.inl rfl) _)|>.fin _ _ _ _ _).1 rfl) rfl ?_;exact((HB7.out).drewN m9).end_err ((HL7.out).drewN m9) _
  |false=>
    go_wp2_with fail;obtain⟨w7,hw7⟩:∃w7,w6.setCell ⟨V,1,none⟩ (.string T)=w7:=⟨_,rfl⟩;have HB7:=yH (show BrAt w w7 X V q T ⟨#[35]⟩ (.slice none 0 0) by rw[←hw7];exact HB6.out.text _);have HL7:=yH (show LexErr w7 X s cc by rw[←hw7];exact HL6.out.var (by have:=HB2.out.hV;have:=HB2.out.hX;omega));rw[hw7];clear hw7;clear f1;clear d0 d1 d2 d3 d4;obtain⟨j9,hlx⟩:=(HL7.out).2;refine(rat_err hlx (HL7.out).ne.1 0).mono ?_;rintro e w9 ⟨rfl,m9,rfl⟩;go_wp2_with fail;refine(rfail_yes (hlx.drewN m9) (HL7.out).ne.2 2).mono ?_;rintro e w9 ⟨rfl,rfl⟩;have c1:=(hlx.drewN m9).c1;have g1:=(hlx.drewN m9).fz 1
    (try clear d0 d1 d2 d3 d4)
    obtain⟨d0,d1,d2,d3,d4⟩:=five_cells ((HB7.out).drewN m9).var;obtain⟨x0,x1,x2,x3,x4⟩:=five_cells ((HB7.out).drewN m9).res;have y:=five_free ((HB7.out).drewN m9).res;have y0:=y 0;have y1:=y 1;have y2:=y 2;have y3:=y 3;have y4:=y 4;have n1:¬V=X:=(by have:=((HB7.out).drewN m9).hV;have:=((HB7.out).drewN m9).hX;omega);have n2:¬w.heap.size=X:=(by have:=((HB7.out).drewN m9).hX;omega);have n3:¬V=w.heap.size:=(by have:=((HB7.out).drewN m9).hV;omega);have n4:¬X=V:=fun e=>n1 e.symm;have n5:¬X=w.heap.size:=fun e=>n2 e.symm;have n6:¬w.heap.size=V:=fun e=>n3 e.symm;clear y;go_wp2_with fail;refine bodyPost_ret (ret_one rfl (((HB7.out).drewN m9).on (Kept.setCell (D:=fun k=>k=X) (Kept.refl _ _) (.inl rfl) _)|>.fin _ _ _ _ _).1 rfl) rfl ?_;exact((HB7.out).drewN m9).end_err ((HL7.out).drewN m9) _
set_option maxHeartbeats 4000000 in
set_option maxRecDepth 100000 in
theorem rbrace_hok {depth:Nat} {f:List Nat→Res (List Pt)} (hd:depth<20) {w:World} {X:Nat} {s:ByteArray} {r:List Nat} (h:LexAt w X s (35::r)) (hs:s.size≤2000) (q:Bool) (hf:firstR (next r:Int)=true) {l r':List Nat} (hnm:nameM r= .ok (l,r')):
    Calls Tryz.prog 128 #[.pointer (some ⟨X,0,none⟩),.bool q,.int .i64 (depth:Int)] w fun e w'=>BrEnd w w' e X s q (bracesM false f (35::r)):=by
  have hM:bracesM false f (35::r)=closeM ⟨2,enc l,[35],[],false⟩ r':=(by rw[braces_hash hf,hnm]);rw[hM];obtain⟨T,hT,hTe,hTa⟩:=str_ne (name_short hf hnm);have HT:=yH (And.intro hT hTa);clear hT hTa;obtain⟨i,hl,hp⟩:=h;have hX:=hl.lt;have hple:=hp.le;have hl2:Lx ((w.alloc (.cells #[.int .i64 0,.string ⟨#[]⟩,.string ⟨#[]⟩,.slice none 0 0,.bool false] 55)).alloc (.cells #[.int .i64 2,.string ⟨#[]⟩,.string ⟨#[]⟩,.slice none 0 0,.bool q] 55)) X s (i:Int) 0:=hl.kept (D:=fun _=>False) (Kept.of_below (((Below.refl _ w).alloc (Nat.le_refl _) _).alloc (by simp) _)) fun _ _ h=>h
  have hb2:BrAt w ((w.alloc (.cells #[.int .i64 0,.string ⟨#[]⟩,.string ⟨#[]⟩,.slice none 0 0,.bool false] 55)).alloc (.cells #[.int .i64 2,.string ⟨#[]⟩,.string ⟨#[]⟩,.slice none 0 0,.bool q] 55)) X (w.heap.size+1) q ⟨#[]⟩ ⟨#[]⟩ (.slice none 0 0):=by
    refine⟨(Below.heap_alloc _ _ _ (by simp)).trans (heap_alloc_new w ZB),?_,Kept.of_below (((Below.refl _ w).alloc (Nat.le_refl _) _).alloc (by simp) _),by omega,hX⟩;have:=heap_alloc_new (w.alloc (.cells #[.int .i64 0,.string ⟨#[]⟩,.string ⟨#[]⟩,.slice none 0 0,.bool false] 55)) (.cells #[.int .i64 2,.string ⟨#[]⟩,.string ⟨#[]⟩,.slice none 0 0,.bool q] 55)
    rwa [show (w.alloc (.cells #[.int .i64 0,.string ⟨#[]⟩,.string ⟨#[]⟩,.slice none 0 0,.bool false] 55)).heap.size=w.heap.size+1 by simp]at this
  obtain⟨w2,hw2⟩:∃w2,(w.alloc (.cells #[.int .i64 0,.string ⟨#[]⟩,.string ⟨#[]⟩,.slice none 0 0,.bool false] 55)).alloc (.cells #[.int .i64 2,.string ⟨#[]⟩,.string ⟨#[]⟩,.slice none 0 0,.bool q] 55)=w2:=⟨_,rfl⟩;obtain⟨V,hV⟩:∃V,w.heap.size+1=V:=⟨_,rfl⟩;rw[hw2]at hl2 hb2;rw[hV]at hb2;have HB2:=yH hb2;have HL2:=yH (show LexAt w2 X s (35::r)from ⟨i,hl2,hp⟩);have HAT:=yH (rat_any hl2 0 (by omega));rw[Nat.add_zero,hp.fbn]at HAT;have HV:=yH hV;have HS:=yH hs;have hdd:decide ((20:Int)≤(depth:Int))=false:=decide_eq_false (by omega);have hd2:(depth:Int)≤20:=(by omega);rw[show fbn (35::r)=35 from rfl]at HAT;have hp1:=hp.fbn1 (by decide);have HAT1:=yH (fun m=>rat_any (hl2.drewN m) 1 (by have:=hp1.le;omega));rw[hp1.fbn]at HAT1;have hcv:=conv_u8 _ (fbn_lt hp1.good);have hff:=hf;rw[←firstR_fbn hp1.good]at hff;obtain⟨b1,hb1⟩:∃b1,fbn r=b1:=⟨_,rfl⟩;rw[hb1]at HAT1 hcv hff;have hi2:(i:Int)+1≤2000:=(by have:=hp1.le;omega);have HLX:=yH (And.intro hl2 hp1);clear hl hp hX hple hl2 hb2 hs hd hM hp1 hb1;go_enter Tryz.func128,Tryz.ntmps128;go_wp2_with fail;clear hw2 hV;refine HAT.out.mono ?_;rintro e w3 ⟨rfl,m1,rfl⟩;go_wp2_with fail;refine(HAT1.out m1).mono ?_;rintro e w3 ⟨rfl,m2,rfl⟩;rw[World.drewN_drewN];have c1:=(HLX.out.1.drewN (m1+m2)).c1;have g1:=(HLX.out.1.drewN (m1+m2)).fz 1;obtain⟨d0,d1,d2,d3,d4⟩:=five_cells (HB2.out.drewN (m1+m2)).var;have f2:=five_free (HB2.out.drewN (m1+m2)).var 2;have n1:¬V=X:=(by have:=HB2.out.hV;have:=HB2.out.hX;omega);have n4:¬X=V:=fun e=>n1 e.symm
  go_wp2_with ((go_at_call 96;refine(rfirst_any (b1:Int) _).mono ?_;rintro e w3 ⟨rfl,rfl⟩;rw[hff]))
  obtain⟨w5,hw5⟩:∃w5,(((w2.drewN (m1+m2)).setCell ⟨X,1,none⟩ (.int .i64 ((i:Int)+1))).setCell ⟨V,2,none⟩ (.string ⟨#[35]⟩))=w5:=⟨_,rfl⟩;have HB5:=yH (show BrAt w w5 X V q ⟨#[]⟩ ⟨#[35]⟩ (.slice none 0 0) by rw[←hw5];exact((HB2.out.drewN _).on (Kept.setCell (D:=fun k=>k=X) (Kept.refl _ _) (.inl rfl) _)).op _);have HL5:=yH (show LexAt w5 X s r by rw[←hw5];exact(show LexAt ((w2.drewN (m1+m2)).setCell ⟨X,1,none⟩ (.int .i64 ((i:Int)+1))) X s r from⟨i+1,(HLX.out.1.drewN _).put1 _,HLX.out.2⟩).var (by have:=HB2.out.hV;have:=HB2.out.hX;omega));rw[hw5];clear hw5 c1 g1 f2 n1 n4 d0 d1 d2 d3 d4;refine(lname_any HL5.out HS.out hf).mono ?_;intro e w6 hE;rw[hnm]at hE;obtain⟨he,hle,hk6⟩:=hE;rw[HT.out.1]at he;subst he;have HB6:=yH (HB5.out.on hk6);have HL6:=yH hle;clear hle hk6;obtain⟨d0,d1,d2,d3,d4⟩:=five_cells (HB6.out).var;have f1:=five_free HB6.out.var 1;go_wp2_with fail;obtain⟨w7,hw7⟩:∃w7,w6.setCell ⟨V,1,none⟩ (.string T)=w7:=⟨_,rfl⟩;have HB7:=yH (show BrAt w w7 X V q T ⟨#[35]⟩ (.slice none 0 0) by rw[←hw7];exact HB6.out.text _);have HL7:=yH (show LexAt w7 X s r' by rw[←hw7];exact HL6.out.var (by have:=HB2.out.hV;have:=HB2.out.hX;omega));rw[hw7];clear hw7;clear f1;clear d0 d1 d2 d3 d4;obtain⟨i7,hl7,hp7⟩:=HL7.out;have HAT7:=yH (fun m=>rat_any (hl7.drewN m) 0 (by have:=hp7.le;have:=HS.out;omega));rw[Nat.add_zero,hp7.fbn]at HAT7;have hi7:(i7:Int)≤2000:=(by have:=hp7.le;have:=HS.out;omega)
  by_cases h125:fbn r'=125
  · obtain⟨z,rfl⟩:=eq_of_fbn (by decide) hp7.good h125
    rw[show fbn (125::z)=125 from rfl]at HAT7;have HL9:=yH (And.intro hl7 hp7);clear hl7 hp7 h125;obtain⟨d0,d1,d2,d3,d4⟩:=five_cells (HB7.out).var;refine(HAT7.out 0).mono ?_;rintro e w9 ⟨rfl,m9,rfl⟩;have c1:=(HL9.out.1.drewN m9).c1;have g1:=(HL9.out.1.drewN m9).fz 1
    (try clear d0 d1 d2 d3 d4)
    obtain⟨d0,d1,d2,d3,d4⟩:=five_cells ((HB7.out).drewN m9).var;obtain⟨x0,x1,x2,x3,x4⟩:=five_cells ((HB7.out).drewN m9).res;have y:=five_free ((HB7.out).drewN m9).res;have y0:=y 0;have y1:=y 1;have y2:=y 2;have y3:=y 3;have y4:=y 4;have n1:¬V=X:=(by have:=((HB7.out).drewN m9).hV;have:=((HB7.out).drewN m9).hX;omega);have n2:¬w.heap.size=X:=(by have:=((HB7.out).drewN m9).hX;omega);have n3:¬V=w.heap.size:=(by have:=((HB7.out).drewN m9).hV;omega);have n4:¬X=V:=fun e=>n1 e.symm;have n5:¬X=w.heap.size:=fun e=>n2 e.symm;have n6:¬w.heap.size=V:=fun e=>n3 e.symm;clear y;go_wp2_with fail;refine bodyPost_ret (ret_one rfl (((HB7.out).drewN m9).on (Kept.setCell (D:=fun k=>k=X) (Kept.refl _ _) (.inl rfl) _)|>.fin _ _ _ _ _).1 rfl) rfl ?_;rw[close_yes];exact(HB7.out.drewN m9).end_ok (HL9.out.1.drewN m9) HL9.out.2 rfl HT.out.1 rfl (WordN.nil _ _)
  · have h125':next r'≠125:=fun e=>h125 ((fbn_iff hp7.good (by decide)).2 e)
    obtain⟨b,hb⟩:∃b,fbn r'=b:=⟨_,rfl⟩;rw[hb]at HAT7 h125;have y125:((b:Int)==125)=false:=rne h125;have HM2:=yH (close_no (p:=⟨2,enc l,[35],[],false⟩) h125');have HL9:=yH hl7;clear hl7 hp7 h125 h125' hb;obtain⟨d0,d1,d2,d3,d4⟩:=five_cells (HB7.out).var;refine(HAT7.out 0).mono ?_;rintro e w9 ⟨rfl,m9,rfl⟩;go_wp2_with fail;refine(rfail_no (HL9.out.drewN m9) 2).mono ?_;rintro e w10 ⟨rfl,hl10,hk10⟩;have HB10:=yH (((HB7.out).drewN m9).on hk10);have HL10:=yH (show LexErr w10 X s 2 from⟨.inl rfl,_,hl10⟩);have c1:=hl10.c1;have g1:=hl10.fz 1;clear hl10 hk10
    (try clear d0 d1 d2 d3 d4)
    obtain⟨d0,d1,d2,d3,d4⟩:=five_cells (HB10.out).var;obtain⟨x0,x1,x2,x3,x4⟩:=five_cells (HB10.out).res;have y:=five_free (HB10.out).res;have y0:=y 0;have y1:=y 1;have y2:=y 2;have y3:=y 3;have y4:=y 4;have n1:¬V=X:=(by have:=(HB10.out).hV;have:=(HB10.out).hX;omega);have n2:¬w.heap.size=X:=(by have:=(HB10.out).hX;omega);have n3:¬V=w.heap.size:=(by have:=(HB10.out).hV;omega);have n4:¬X=V:=fun e=>n1 e.symm;have n5:¬X=w.heap.size:=fun e=>n2 e.symm;have n6:¬w.heap.size=V:=fun e=>n3 e.symm;clear y;go_wp2_with fail;refine bodyPost_ret (ret_one rfl (HB10.out.on (Kept.setCell (D:=fun k=>k=X) (Kept.refl _ _) (.inl rfl) _)|>.fin _ _ _ _ _).1 rfl) rfl ?_;rw[HM2.out];exact HB10.out.end_err HL10.out _
theorem rbrace_any {depth:Nat} {f:List Nat→Res (List Pt)} (hP:RexPartsDo true (depth+1) f) (hd:depth<20):RBraceDo depth (bracesM false f):=by
  intro w X s xs h hs q
  by_cases hh:next xs=35∧firstR (next xs.tail:Int)=true
  · obtain⟨h1,h2⟩:=hh
    cases xs with
    |nil=>exact absurd h1 (by decide)
    |cons c r=>
      obtain rfl:c=35:=h1
      cases hn:nameM r with
      |error cc=>exact rbrace_herr hd h hs q h2 hn
      |ok a=>obtain⟨l,r'⟩:=a;exact rbrace_hok hd h hs q h2 hn
  · have hcond:next xs=35→firstR (next xs.tail:Int)=false:=fun e=>by
      cases e2:firstR (next xs.tail:Int)with
      |false=>rfl
      |true=>exact absurd ⟨e,e2⟩ hh
    by_cases hfo:firstR (next xs:Int)=true∨other (next xs)=true
    · cases hpm:parameterM xs with
      |error cc=>exact rbrace_perr hd h hs q hcond hfo hpm
      |ok a=>
        obtain⟨l,r⟩:=a
        by_cases h125:next r=125
        · cases r with
          |nil=>exact absurd h125 (by decide)
          |cons c z=>
            obtain rfl:c=125:=h125;exact rbrace_shut hd h hs q hcond hfo hpm
        · by_cases h58:next r=58
          · cases r with
            |nil=>exact absurd h58 (by decide)
            |cons c r=>
              obtain rfl:c=58:=h58
              by_cases hk:next r=45∨next r=43∨(next r=61∧nameL l=true)
              · cases r with
                |nil=>rcases hk with e|e|⟨e, -⟩<;>exact absurd e (by decide)
                |cons k r=>exact rbrace_good hP hd h hs q hcond hfo hpm hk
              · refine rbrace_bad hd h hs q hcond hfo hpm (fun e=>hk (.inl e)) (fun e=>hk (.inr (.inl e))) ?_
                by_cases e:next r=61
                · right
                  cases hn:nameL l with
                  |false=>rfl
                  |true=>exact absurd (.inr (.inr ⟨e,hn⟩)) hk
                · exact .inl e
          · refine rbrace_odd hd h hs q hcond hfo hpm ?_ h125 h58
            rintro⟨rfl,hf⟩
            have hx:other (next xs)=true∧next xs=35∧r=xs.tail:=by
              unfold parameterM at hpm
              cases ho:other (next xs)with
              |true=>
                rw[ho,if_pos rfl]at hpm;have e:=Except.ok.inj hpm;have e1: [next xs]= [35]:=congrArg Prod.fst e;have e2:xs.tail=r:=congrArg Prod.snd e;exact⟨rfl,by simpa using e1,e2.symm⟩
              |false=>
                rw[ho,if_neg (by decide)]at hpm
                split at hpm
                · rename_i hn
                  have e:=(Except.ok.inj hpm);have e1:got (fun r=> !moreR (r:Int)) xs= [35]:=congrArg Prod.fst e;rw[e1]at hn;exact absurd hn (by decide)
                · cases hpm
            obtain⟨-,h1,rfl⟩:=hx;exact absurd ⟨h1,hf⟩ hh
    · have h1:firstR (next xs:Int)=false:=by
        cases e:firstR (next xs:Int)with
        |false=>rfl
        |true=>exact absurd (.inl e) hfo
      have h2:other (next xs)=false:=by
        cases e:other (next xs)with
        |false=>rfl
        |true=>exact absurd (.inr e) hfo
      exact rbrace_none hd h hs q hcond h1 h2
theorem rparts_do:∀d,d≤20→RexPartsDo (decide (0<20-d)) (20-d) (partsM d)
  |0,_=>by
    have h:=rexparts_any (d:=true) (depth:=20) (br:=bracesM true fun _=> .error 0) (braces_ok (f:=fun _=> .error 0) (fun _ _ _ h=>by cases h) true) (rdollar_do (rbrace_lim (Nat.le_refl _) _));exact h
  |d+1,hd=>by
    have ih:=rparts_do d (by omega)
    have hP:RexPartsDo true (19-d+1) (partsM d):=by
      rw[show 19-d+1=20-d by omega]
      rwa [decide_eq_true (show 0<20-d by omega)]at ih
    have h:=rexparts_any (d:=decide (d<19)) (depth:=19-d) (br:=bracesM false (partsM d)) (braces_ok (parts_ok d) false) (rdollar_do (rbrace_any hP (by omega)));rw[show 20-(d+1)=19-d by omega]
    have e:(decide (0<19-d))=decide (d<19):=by
      by_cases hc:d<19
      · rw[decide_eq_true hc,decide_eq_true (by omega)]
      · rw[decide_eq_false hc,decide_eq_false (by omega)]
    rw[e];exact h
theorem rparts_all {w:World} {X:Nat} {s:ByteArray} {xs:List Nat} (h:LexAt w X s xs) (hs:s.size≤2000):
    Calls Tryz.prog 42 #[.pointer (some ⟨X,0,none⟩),.bool false,.int .i64 0] w fun e w'=>PtsEnd w w' e X s (partsM 20 xs):=rparts_do 20 (Nat.le_refl _) w X s xs h hs
theorem eb_low {c:Nat} (h:c<128):eb c= [UInt8.ofNat c]:=by unfold eb;rw[if_pos h]
theorem enc_takes:∀ {p xs:List Nat},(∀c∈p,c<128)→(∀x∈xs,GoodL x)→((enc xs).take (enc p).length=enc p↔(takes p xs).isSome=true)
  | [],xs,_,_=>by simp[enc,takes]
  |c::p,[],hp,_=>by
    have h1:=eb_length c;simp only[enc,takes,Option.isSome_none,Bool.false_eq_true,iff_false];intro e;have:=congrArg List.length e;simp at this;omega
  |c::p,x::r,hp,hg=>by
    have hc:=hp c (by simp);have ih:=enc_takes (p:=p) (xs:=r) (fun d hd=>hp d (by simp[hd])) (fun d hd=>hg d (by simp[hd]));rw[enc,enc,eb_low hc,takes]
    by_cases e:c=x
    · subst e
      rw[if_pos rfl,eb_low hc,←ih];simp
    · rw[if_neg e,eb_split x]
      simp only[List.cons_append,List.nil_append,List.length_cons,List.take_succ_cons,List.cons.injEq,Option.isSome_none,Bool.false_eq_true,iff_false];intro h;obtain⟨h1,h2,h3,h4⟩:=fb_facts (hg x (by simp));have:=congrArg UInt8.toNat h.1;rw[byte_of _ h2,byte_of _ (by omega)]at this
      by_cases hx:x<128
      · rw[(h3 hx).1]at this;omega
      · have:=h4 (by omega);omega
def sgT (p:List Nat):ByteArray:=⟨(enc p).toArray⟩
theorem sgT_size (p:List Nat):(sgT p).size=(enc p).length:=bytes_size _
theorem sgT_list (p:List Nat):(sgT p).toList=enc p:=ByteArray.toList_mk _
theorem pos_sign {s:ByteArray} {i:Nat} {xs p:List Nat} (h:Pos s i xs) (hp:∀c∈p,c<128):
    ((takes p xs).isSome=true→i+(sgT p).size≤s.size∧((s.extract i (i+(sgT p).size)).toList==(sgT p).toList)=true)∧
    ((takes p xs).isSome=false→s.size<i+(sgT p).size∨(i+(sgT p).size≤s.size∧((s.extract i (i+(sgT p).size)).toList==(sgT p).toList)=false)):=by
  have hl:=h.len
  have hx:(s.extract i (i+(sgT p).size)).toList=(enc xs).take (enc p).length:=by
    rw[extract_list,h.rest,sgT_size,Nat.add_sub_cancel_left];exact ByteArray.toList_mk _
  have hi:=enc_takes hp h.good;rw[hx,sgT_list,sgT_size];constructor
  · intro hs
    have e:=hi.2 hs;refine⟨?_,by rw[e];simp⟩;have:=congrArg List.length e;rw[List.length_take]at this;omega
  · intro hs
    by_cases hlen:i+(enc p).length≤s.size
    · right
      refine⟨hlen,?_⟩
      cases hb:((enc xs).take (enc p).length==enc p)with
      |false=>rfl
      |true=>rw[hi.1 (by simpa using hb)]at hs;cases hs
    · left;omega
def signVals:List Value:=signs.map fun p=> .string (sgT p)
theorem sign_vals:signVals= [.string ⟨#[38,38]⟩,.string ⟨#[124,124]⟩,.string ⟨#[59,59]⟩,.string ⟨#[62,62]⟩,.string ⟨#[59]⟩,.string ⟨#[124]⟩,.string ⟨#[40]⟩,.string ⟨#[41]⟩,.string ⟨#[62]⟩,.string ⟨#[60]⟩,.string ⟨#[10]⟩]:=rfl
theorem signs_low:∀p∈signs,(∀c∈p,c<128)∧(enc p).length≤2:=by decide
theorem signM_drop {k:Nat} {p xs:List Nat} (h:signs[k]? =some p):signM (signs.drop k) xs=match takes p xs with
    |some ys=>some (p,ys)
    |none=>signM (signs.drop (k+1)) xs:=by
  obtain⟨hk,rfl⟩:=List.getElem?_eq_some_iff.1 h;rw[List.drop_eq_getElem_cons hk];rfl
def signT (xs:List Nat):ByteArray:=match signM signs xs with
  |some (p,_)=>sgT p
  |none=>⟨#[]⟩
set_option maxHeartbeats 2000000 in
set_option maxRecDepth 100000 in
theorem rsign_any {w:World} {X:Nat} {s:ByteArray} {xs:List Nat} (h:LexAt w X s xs) (hs:s.size≤2000):
    Calls Tryz.prog 41 #[.pointer (some ⟨X,0,none⟩)] w fun e w'=>e= .returned (.string (signT xs))∧Kept (fun _=>False) w w':=by
  obtain⟨R,hR⟩:∃R,signT xs=R:=⟨_,rfl⟩;rw[hR];obtain⟨O,hO⟩:∃O,Obj.cells #[.string ⟨#[38,38]⟩,.string ⟨#[124,124]⟩,.string ⟨#[59,59]⟩,.string ⟨#[62,62]⟩,.string ⟨#[59]⟩,.string ⟨#[124]⟩,.string ⟨#[40]⟩,.string ⟨#[41]⟩,.string ⟨#[62]⟩,.string ⟨#[60]⟩,.string ⟨#[10]⟩] 9=O:=⟨_,rfl⟩;have hk0:Kept (fun _=>False) w (w.alloc O):=(Kept.refl _ w).alloc O;have HL:=yH (show LexAt (w.alloc O) X s xs from h.kept hk0 fun _ _ h=>h)
  have HC:=yH (show ∀(k:Nat) (p:List Nat),signs[k]? =some p→(w.alloc O).cell? ⟨w.heap.size,k,none⟩=some (.string (sgT p))from fun k p hp=>by
    have hb:(w.alloc O).heap[w.heap.size]? =some (.cells #[.string ⟨#[38,38]⟩,.string ⟨#[124,124]⟩,.string ⟨#[59,59]⟩,.string ⟨#[62,62]⟩,.string ⟨#[59]⟩,.string ⟨#[124]⟩,.string ⟨#[40]⟩,.string ⟨#[41]⟩,.string ⟨#[62]⟩,.string ⟨#[60]⟩,.string ⟨#[10]⟩] 9 (0,0)):=(by rw[←hO];exact heap_alloc_new w _);rw[cell_plain hb];have e:signVals[k]? =some (.string (sgT p)):=(by unfold signVals;rw[List.getElem?_map,hp];rfl);rw[sign_vals]at e
    simpa using e)
  have HK0:=yH hk0;have HS:=yH hs;have HRR:=yH hR;obtain⟨b,hb⟩:∃b,w.heap.size=b:=⟨_,rfl⟩;rw[hb]at HC;clear h hs hk0 hR;go_enter Tryz.func41,Tryz.ntmps41;go_wp2_with fail
  go_loopw [4] (fun i wr=> ∃(k m:Nat),i= .int .i64 (k:Int)∧k≤11∧wr=(w.alloc O).drewN m∧signM signs xs=signM (signs.drop k) xs) (fun i _=>11-(intOf i).toNat)
  case atStart=>exact⟨0,0,rfl,by omega,rfl,rfl⟩
  case round=>
    obtain⟨k,m,rfl,hk,rfl,hsm⟩:=hrel;have HSM:=yH hsm;clear hsm
    by_cases hlt:k<11
    · obtain⟨p,hp⟩:∃p,signs[k]? =some p:=⟨_,List.getElem?_eq_getElem (show k<signs.length from hlt)⟩
      have hlow:=signs_low p (List.mem_of_getElem? hp);have hc:=HC.out k p hp;obtain⟨i,hl,hpos⟩:=HL.out;have hq:=pos_sign hpos hlow.1;have hz:(sgT p).size≤2:=(by rw[sgT_size];exact hlow.2);obtain⟨P,hP⟩:∃P,sgT p=P:=⟨_,rfl⟩;rw[hP]at hc hq hz;have HP:=yH hP;have hple:=hpos.le;have hsz:=HS.out;obtain⟨wq,hwq⟩:∃wq,(w.alloc O).drewN m=wq:=⟨_,rfl⟩;have hcq:wq.cell? ⟨b,k,none⟩=some (.string P):=(by rw[←hwq];exact hc);have hlq:Lx wq X s (i:Int) 0:=(by rw[←hwq];exact hl.drewN m);have c0:=hlq.c0;have c1:=hlq.c1;rw[hwq];have HWQ:=yH hwq;have e1:IntKind.i64.wrap ((i:Int)+(P.size:Int))=(i:Int)+(P.size:Int):=IntWalk.i64_in _ ⟨by omega,by omega⟩;have hk0:(k:Int)<11:=(by omega);have hk1:(0:Int)≤(k:Int):=(by omega);have HLT:=yH hlt;have HDR:=yH (signM_drop (xs:=xs) hp)
      cases ht:takes p xs with
      |some ys=>
        obtain⟨q1,q2⟩:=hq.1 (by rw[ht];rfl)
        have hRP:R=P:=by
          rw[←HRR.out,signT,HSM.out,HDR.out,ht];exact hP
        have h1:decide ((i:Int)+(P.size:Int)≤(s.size:Int))=true:=decide_eq_true (by omega)
        have hsl:∀W,(Instr.slice 9 (.string s) (some (.int .i64 (i:Int))) (some (.int .i64 ((i:Int)+(P.size:Int)))) none).run Tryz.prog W= .ok (.string (s.extract i (i+P.size))) W:=fun W=>by
          rw[run_slice_string W 9 s .i64 .i64 _ _ Tryz.underlying9 (by omega) (by omega) (by omega),show(i:Int).toNat=i by omega,show((i:Int)+(P.size:Int)).toNat=i+P.size by omega]
        obtain⟨E,hE⟩:∃E,s.extract i (i+P.size)=E:=⟨_,rfl⟩;rw[hE]at hsl q2;have HRP:=yH hRP;clear hq hz hple hsz hl hpos hp hlow hc hlq hwq hlt hk ht q1 hRP hP hE;go_wp2_with fail
        go_quiet (fail)
        go_wp2_with fail;go_ret;exact⟨by rw[HRP.out];rfl,HK0.out.on (by rw[←HWQ.out];exact((Kept.refl _ _).drewN _).drewN _)⟩
      |none=>
        have HT:=yH ht;have hk3:(k:Int)+1≤9223372036854775807:=(by omega)
        rcases hq.2 (by rw[ht];rfl)with q1|⟨q1,q2⟩
        · have h1:decide ((i:Int)+(P.size:Int)≤(s.size:Int))=false:=decide_eq_false (by omega)
          clear hq hz hple hsz hl hpos hp hlow hc hlq hwq hlt hk ht q1 hP;go_wp2_with fail
          go_quiet (fail)
          go_wp2_with fail;exact⟨⟨k+1,_,rfl,HLT.out,by rw[←HWQ.out,World.drewN_drewN],by rw[HSM.out,HDR.out,HT.out]⟩,by have:=HLT.out;simp[intOf];omega⟩
        · have h1:decide ((i:Int)+(P.size:Int)≤(s.size:Int))=true:=decide_eq_true (by omega)
          have hsl:∀W,(Instr.slice 9 (.string s) (some (.int .i64 (i:Int))) (some (.int .i64 ((i:Int)+(P.size:Int)))) none).run Tryz.prog W= .ok (.string (s.extract i (i+P.size))) W:=fun W=>by
            rw[run_slice_string W 9 s .i64 .i64 _ _ Tryz.underlying9 (by omega) (by omega) (by omega),show(i:Int).toNat=i by omega,show((i:Int)+(P.size:Int)).toNat=i+P.size by omega]
          obtain⟨E,hE⟩:∃E,s.extract i (i+P.size)=E:=⟨_,rfl⟩;rw[hE]at hsl q2;clear hq hz hple hsz hl hpos hp hlow hc hlq hwq hlt hk ht q1 hP hE;go_wp2_with fail
          go_quiet (fail)
          go_wp2_with fail;exact⟨⟨k+1,_,rfl,HLT.out,by rw[←HWQ.out,World.drewN_drewN],by rw[HSM.out,HDR.out,HT.out]⟩,by have:=HLT.out;simp[intOf];omega⟩
    · obtain rfl:k=11:=by omega
      have HRE:=yH (show R=⟨#[]⟩from by rw[←HRR.out,signT,HSM.out];rfl);clear hlt hk;go_wp2_with fail;go_ret;exact⟨by rw[HRE.out];rfl,HK0.out.on ((Kept.refl _ _).drewN _)⟩
theorem skip_blank {c:Nat} {r:List Nat} (h:c=32∨c=9):skipM (c::r)=skipM r:=by
  have e:left (fun r=>r !=32&&r !=9) (c::r)=left (fun r=>r !=32&&r !=9) r:=by
    rw[left]
    rcases h with rfl|rfl<;>rfl
  unfold skipM;rw[e]
theorem skip_stay {c:Nat} {r:List Nat} (h1:c≠32) (h2:c≠9):left (fun r=>r !=32&&r !=9) (c::r)=c::r:=by
  rw[left,if_pos (by simp[h1,h2])]
theorem skip_hash {r:List Nat} :skipM (35::r)=left (fun r=>r==10) (35::r):=by
  unfold skipM;rw[skip_stay (by decide) (by decide),if_pos (show next (35::r)=35 from rfl)]
theorem skip_at {c:Nat} {r:List Nat} (h1:c≠32) (h2:c≠9) (h3:c≠35):skipM (c::r)=c::r:=by
  unfold skipM;rw[skip_stay h1 h2,if_neg (show ¬next (c::r)=35 from h3)]
theorem skip_line (xs:List Nat):skipM (left (fun r=>r==10) xs)=left (fun r=>r==10) xs:=by
  rcases left_head (fun r=>r==10) xs with e|e
  · rw[e];rfl
  · cases hl:left (fun r=>r==10) xs with
    |nil=>rfl
    |cons c r=>
      rw[hl]at e;obtain rfl:c=10:=(by simpa [next]using e);exact skip_at (by decide) (by decide) (by decide)
theorem tokensL_same {sz f:Nat} {xs ys:List Nat} {l:List Tk} (h:skipM xs=skipM ys):tokensL sz (f+1) xs l=tokensL sz (f+1) ys l:=by rw[tokensL,tokensL,h]
theorem TokO.weaken {w:World} {B B' X:Nat} {v:Value} {us:List Value} {F:Nat→Prop} {ts:List Tk} (h:TokO w B X v us F ts) (hB:B'≤B):TokO w B' X v us F ts where
  own:=ownsRow_base h.own fun g hg=>Nat.le_trans hB (World.ownsRow.lt h.own g hg).1
  len:=h.len
  sub:=h.sub
  far:=fun g hg=>⟨Nat.le_trans hB (h.far g hg).1,(h.far g hg).2⟩
  ne:=h.ne
structure LtAt (w wr:World) (X:Nat) (s:ByteArray) (M:Except (Nat×Nat) (List Tk)) (f:Nat) (ys:List Nat) (v:Value) (us:List Value) (F:Nat→Prop) (ts:List Tk):Prop where
  lex:LexAt wr X s ys
  row:TokO wr (X+1) X v us F ts
  below:Below w.heap.size w wr
  hX:w.heap.size≤X
  said:tokensL s.size f ys ts=M
  fuel:ys.length<f
  few:ts.length+ys.length≤4000
theorem LtAt.more {w wr w0 w1:World} {X f k g cap C:Nat} {s:ByteArray} {M:Except (Nat×Nat) (List Tk)} {v v' u:Value} {us:List Value} {F:Nat→Prop} {ts:List Tk} {t:Tk} {T:ByteArray} {ys r:List Nat} {o:Obj} (h:LtAt w wr X s M f ys v us F ts) (hk:Kept (fun k=>k=X) wr w0) (hl:LexAt w0 X s r)
    (hkk:ts.length=k) (hv:v'.ownBlock=v.ownBlock) (hw:WordN w0 C u t.word) (hC:wr.heap.size≤C) (hT:txt t.text= .string T)
    (hown:w1.ownsRow (X+1) 53 4 (.slice (some ⟨g,0,none⟩) (k+1) cap) (k+1) (tokCells ts us++ [.int .i64 t.kind,.string T,u,.int .i64 (t.at_:Int)])) (hgr:(w0.alloc o).grownBy w1 v'.ownBlock) (hat:v'.ownBlock=some g∨g=w0.heap.size+1):
    LexAt w1 X s r∧Below w.heap.size w w1∧∃us' F',TokO w1 (X+1) X (.slice (some ⟨g,0,none⟩) (k+1) cap) us' F' (ts++ [t]):=by
  subst hkk;rw[hv]at hgr hat;have hX:=h.hX;have hXl:=h.lex.lt;have hrow0:=h.row.kept hk (fun i _ _ hne e=>hne e);have hb0:Below w.heap.size w w0:=below_kept h.below hk (fun i e=>by omega) h.below.size;have s0:=hk.size;have hk01:Kept (fun i=>v.ownBlock=some i) w0 w1:=Kept.grown (D:=fun i=>v.ownBlock=some i) ((Kept.refl _ w0).alloc o) hgr fun j e=> .inl e;have hlt0:∀j,v.ownBlock=some j→X+1≤j∧j<wr.heap.size:=fun j e=>World.ownsRow.lt h.row.own j e;refine⟨hl.kept hk01 fun j hj e=>by have:=(hlt0 j e).1;omega,below_kept hb0 hk01 (fun i e=>by have:=(hlt0 i e).1;omega) hb0.size,?_⟩;obtain⟨F',hh⟩:=TokO.add hrow0 (by omega) hw (by omega) (by omega) (fun j e=>by have:=(hlt0 j e).2;omega) (by rw[tcells,hT];exact hown) hgr hat;exact⟨_,F',hh⟩
theorem LtAt.next {w wr w1:World} {X f:Nat} {s:ByteArray} {M:Except (Nat×Nat) (List Tk)} {v v':Value} {us us':List Value} {F F':Nat→Prop} {ts:List Tk} {t:Tk} {ys r:List Nat} (h:LtAt w wr X s M (f+1) ys v us F ts) (hl:LexAt w1 X s r) (hb:Below w.heap.size w w1) (hr:TokO w1 (X+1) X v' us' F' (ts++ [t])) (hm:tokensL s.size f r (ts++ [t])=M) (hless:Less ys r):
    (∃f ys us F ts,LtAt w w1 X s M f ys v' us F ts)∧toGo w1 X s.size<toGo wr X s.size:=by
  refine⟨⟨f,r,us',F',_,hl,hr,hb,h.hX,hm,by have:=h.fuel;have:=hless.2;omega,by have:=h.few;have:=hless.2;simp only[List.length_append,List.length_singleton];omega⟩,?_⟩;rw[hl.toGo,h.lex.toGo];have:=enc_less hless;omega
theorem new_drew {w w':World} (hs:w.heap.size=w'.heap.size) (cs:Array Value) (t:TypeId):∀(j:Nat) (u:Value),cs.toList[j]? =some u→(w.alloc (.cells cs t)).drew.cell? ((⟨w'.heap.size,0,none⟩:Addr).add j)=some u:=by
  intro j u hu;have:=new_block w cs t j u hu
  rwa [hs]at this
end Go.Proofs.YtcpmjkefbjbhpaaGreatDoor
