/-
  Proved: the statements' own lexer takes what begins with a dollar, of whatever braces. Conditions: it lies in memory, beside a row of parts; the text's letters are good.
-/
import Derived.Test.YtcpmjkefbjbhpaaGreatDoorRexDouble
namespace Go.Proofs.YtcpmjkefbjbhpaaGreatDoor
open Go Go.RowKit GlyphMath LexMath
theorem PrtO.putend {w w1:World} {B C g cap k:Nat} {v v':Value} {vs:List Value} {F:Nat→Prop} {ps:List Pt} {p:Pt} {u:Value} {o:Obj} {T O:ByteArray} (h:PrtO w B v vs F ps) (hk:ps.length=k) (hv:v'.ownBlock=v.ownBlock) (hw:WordN w C u p.word) (hBC:B≤C) (hvC:∀g,v.ownBlock=some g→g<C) (hT:txt p.text= .string T) (hO:txt p.op= .string O)
    (hown:w1.ownsRow B 55 5 (.slice (some ⟨g,0,none⟩) (k+1) cap) (k+1) (rowCells ps vs++ [.int .i64 p.kind,.string T,.string O,u,.bool p.q])) (hgrow:(w.alloc o).grownBy w1 v'.ownBlock) (hat:v'.ownBlock=some g∨g=w.heap.size+1):
    Prt w1 B (.slice (some ⟨g,0,none⟩) (k+1) cap) (ps++ [p])∧Kept (fun k=>B≤k) w w1:=by
  subst hk;rw[hv]at hgrow hat;refine⟨h.add hw hBC hvC ?_ hgrow hat,?_⟩
  · rw[show pcells p u= [.int .i64 p.kind,.string T,.string O,u,.bool p.q] by unfold pcells;rw[hT,hO]]
    exact hown
  · exact Kept.grown (D:=fun k=>B≤k) ((Kept.refl _ w).alloc o) hgrow fun j e=> .inl (World.ownsRow.lt h.own j e).1
def BrEnd (w w':World) (e:Ending) (X:Nat) (s:ByteArray) (q:Bool) (m:Res Pt):Prop:=
  match m with
  | .ok (p,r)=> ∃u T O,txt p.text= .string T∧txt p.op= .string O∧e= .returned (.agg #[.int .i64 p.kind,.string T,.string O,u,.bool q])∧WordN w' w.heap.size u p.word∧LexAt w' X s r∧Kept (fun k=>k=X) w w'
  | .error c=>(∃T O a n k,e= .returned (.agg #[.int .i64 2,.string T,.string O,.slice a n k,.bool q]))∧LexErr w' X s c∧Kept (fun k=>k=X) w w'
def RBraceDo (depth:Nat) (br:List Nat→Res Pt):Prop:=
  ∀(w:World) (X:Nat) (s:ByteArray) (xs:List Nat),LexAt w X s xs→s.size≤2000→∀q:Bool,
    Calls Tryz.prog 128 #[.pointer (some ⟨X,0,none⟩),.bool q,.int .i64 (depth:Int)] w fun e w'=>BrEnd w w' e X s q (br xs)
theorem dollar_step {w:World} {X B:Nat} {s:ByteArray} {v:Value} {r:List Nat} {ps:List Pt} (h:PIn w X s B v (36::r) ps) {i:Nat} (hl:Lx w X s (i:Int) 0) (hp:Pos s i (36::r)):
    Pos s (i+1) r∧Lx (w.setCell ⟨X,1,none⟩ (.int .i64 ((i:Int)+1))) X s ((i+1:Nat):Int) 0∧Kept (fun k=>k=X) w (w.setCell ⟨X,1,none⟩ (.int .i64 ((i:Int)+1)))∧PIn (w.setCell ⟨X,1,none⟩ (.int .i64 ((i:Int)+1))) X s B v r ps:=by
  have hp1:=hp.fbn1 (by decide);have hl1:Lx (w.setCell ⟨X,1,none⟩ (.int .i64 ((i:Int)+1))) X s ((i+1:Nat):Int) 0:=hl.put1 _;have hk1:=Kept.setCell (D:=fun k=>k=X) (Kept.refl _ w) (p:=⟨X,1,none⟩) (.inl rfl) (.int .i64 ((i:Int)+1));exact⟨hp1,hl1,hk1,h.step ⟨_,hl1,hp1⟩ hk1⟩
set_option maxHeartbeats 2000000 in
theorem rdollar_lit {depth:Nat} {br:List Nat→Res Pt} {w:World} {X B:Nat} {s:ByteArray} {v:Value} {r:List Nat} {ps:List Pt} (h:PIn w X s B v (36::r) ps) (hs:s.size≤2000) (hf:Fits (36::r) ps) (q:Bool)
    (h1:takes [123] r=none) (h2:takes [40,40] r=none) (h3:firstR (next r:Int)=false) (h4:other (next r)=false):
    Calls Tryz.prog 88 #[.pointer (some ⟨X,0,none⟩),v,.bool q,.int .i64 (depth:Int)] w fun e w'=>PrtEnd w w' e X s B (dollarM br q (36::r) ps):=by
  have hM:dollarM br q (36::r) ps= .ok (lit ps [36] true,r):=by
    unfold dollarM;simp only[List.tail_cons];rw[h1,h2];simp only[h3,h4,Bool.or_self];rfl
  rw[hM];obtain⟨i,hl,hp⟩:=h.lex;obtain⟨hp1,hl1,hk1,hin1⟩:=dollar_step h hl hp;have c1:=hl.c1;have f1:=hl.fz 1;have hple:=hp1.le;have hi2:(i:Int)≤2000:=(by omega);have HAT:=yH (rat_any hl1 0 (by omega));rw[Nat.add_zero,hp1.fbn]at HAT;have hgood:=hp1.good;rw[←firstR_fbn hgood]at h3;rw[←other_fbn hgood]at h4;have hcv:=conv_u8 _ (fbn_lt hgood);have HLIT:=yH (fun (W:World) (hW:Prt W B v ps) (hBW:B≤W.heap.size)=>rlit_any hW hf hBW [36] (by decide) true);have HH:=yH (And.intro hin1 hk1)
  have h123:fbn r≠123:=fun e=>by
    rw[takes_one,if_pos ⟨(fbn_iff hgood (by decide)).1 e,fun e'=>by rw[e']at e;cases e⟩]at h1
    cases h1
  by_cases h40:fbn r=40
  · obtain⟨z,rfl⟩:=eq_of_fbn (by decide) hgood h40
    have hp2:=hp1.fbn1 (by decide);have HAT1:=yH (fun m=>rat_any (hl1.drewN m) 1 (by omega));rw[hp2.fbn]at HAT1
    have h41:fbn z≠40:=fun e=>by
      obtain⟨y,rfl⟩:=eq_of_fbn (by decide) hp2.good e;simp[takes]at h2
    obtain⟨d,hd⟩:∃d,fbn z=d:=⟨_,rfl⟩;rw[hd]at HAT1 h41;have yd:((d:Int)==40)=false:=rne h41;have hf40:firstR 40=false:=(by decide);have ho40:other 40=false:=(by decide);rw[h40]at HAT;clear h hs hf h1 h2 h3 h4 hM hl hp hp1 hl1 hk1 hin1 hple hgood hcv h123 h40 hp2 h41 hd;go_enter Tryz.func88,Tryz.ntmps88;go_wp2_with fail;refine HAT.out.mono ?_;rintro e w1 ⟨rfl,m1,rfl⟩;go_wp2_with fail;refine(HAT1.out _).mono ?_;rintro e w2 ⟨rfl,m2,rfl⟩
    go_wp2_with (first
      |(go_at_call 130;refine(rspecial_any 40 _).mono ?_;rintro e w3 ⟨rfl,rfl⟩;rw[ho40])
      |(go_at_call 96;refine(rfirst_any 40 _).mono ?_;rintro e w3 ⟨rfl,rfl⟩;rw[hf40]))
    have hin:=HH.out.1.drewN (m1+m2);refine(HLIT.out _ hin.row hin.hB).mono ?_;rintro e w4 ⟨v4,rfl,hr4,hk4⟩;have H4:=yH (And.intro hin (And.intro hr4 hk4));clear hin hr4 hk4;go_wp2_with fail;go_ret;exact⟨v4,rfl,H4.out.1.lex.keptB H4.out.2.2 H4.out.1.hX,H4.out.2.1,(HH.out.2.drewN _).wideX.on H4.out.2.2.wideP⟩
  · obtain⟨b,hb⟩:∃b,fbn r=b:=⟨_,rfl⟩
    rw[hb]at HAT h3 h4 hcv h123 h40;have y40:((b:Int)==40)=false:=rne h40;have y123:((b:Int)==123)=false:=rne h123;clear h hs hf h1 h2 hM hl hp hp1 hl1 hk1 hin1 hple hgood h123 h40 hb;go_enter Tryz.func88,Tryz.ntmps88;go_wp2_with fail;refine HAT.out.mono ?_;rintro e w1 ⟨rfl,m1,rfl⟩
    go_wp2_with (first
      |(go_at_call 130;refine(rspecial_any b _).mono ?_;rintro e w3 ⟨rfl,rfl⟩;rw[h4])
      |(go_at_call 96;refine(rfirst_any (b:Int) _).mono ?_;rintro e w3 ⟨rfl,rfl⟩;rw[h3]))
    have hin:=HH.out.1.drewN m1;refine(HLIT.out _ hin.row hin.hB).mono ?_;rintro e w4 ⟨v4,rfl,hr4,hk4⟩;have H4:=yH (And.intro hin (And.intro hr4 hk4));clear hin hr4 hk4;go_wp2_with fail;go_ret;exact⟨v4,rfl,H4.out.1.lex.keptB H4.out.2.2 H4.out.1.hX,H4.out.2.1,(HH.out.2.drewN _).wideX.on H4.out.2.2.wideP⟩
theorem wordN_shape {w:World} {B:Nat} {v:Value} {ps:List Pt} (h:WordN w B v ps):∃a k c,v= .slice a k c:=by
  obtain⟨F,h,_⟩:=h
  cases h with
  |row _ _ vs h1 _ _ _=>
    rcases h1.2 with ⟨hv,h0⟩|⟨g,cap,cur,hv,_⟩
    · exact⟨none,0,0,hv⟩
    · exact⟨_,_,_,hv⟩
set_option maxHeartbeats 2000000 in
theorem rdollar_brace {depth:Nat} {br:List Nat→Res Pt} (hB:RBraceDo depth br) {w:World} {X B:Nat} {s:ByteArray} {v:Value} {z:List Nat} {ps:List Pt} (h:PIn w X s B v (36::123::z) ps) (hs:s.size≤2000) (hf:Fits (36::123::z) ps) (q:Bool):
    Calls Tryz.prog 88 #[.pointer (some ⟨X,0,none⟩),v,.bool q,.int .i64 (depth:Int)] w fun e w'=>PrtEnd w w' e X s B (dollarM br q (36::123::z) ps):=by
  have hM:dollarM br q (36::123::z) ps=match br z with
      | .error e=> .error e
      | .ok (p,r')=> .ok (ps++ [{ p with q:=q }],r'):=by
    unfold dollarM;simp only[List.tail_cons];rw[show takes [123] (123::z)=some z by simp[takes]];dsimp only
    cases br z<;>rfl
  obtain⟨D,hd⟩:∃D,br z=D:=⟨_,rfl⟩;rw[hd]at hM;rw[hM];obtain⟨i,hl,hp⟩:=h.lex;obtain⟨hp1,hl1,hk1,hin1⟩:=dollar_step h hl hp;have hp2:=hp1.fbn1 (by decide);have c1:=hl.c1;have f1:=hl.fz 1;have hple:=hp2.le;have hi2:(i:Int)+2≤2000:=(by omega);have HAT:=yH (rat_any hl1 0 (by omega));rw[Nat.add_zero,hp1.fbn,show fbn (123::z)=123 from rfl]at HAT;have HL2:=yH (show ∀m,Lx (((w.setCell ⟨X,1,none⟩ (.int .i64 ((i:Int)+1))).drewN m).setCell ⟨X,1,none⟩ (.int .i64 ((i:Int)+1+1))) X s ((i+1+1:Nat):Int) 0 from fun m=>(hl1.drewN m).put1 _);have HK2:=yH (show ∀m,Kept (fun k=>k=X) w (((w.setCell ⟨X,1,none⟩ (.int .i64 ((i:Int)+1))).drewN m).setCell ⟨X,1,none⟩ (.int .i64 ((i:Int)+1+1)))from fun m=>Kept.setCell (D:=fun k=>k=X) (hk1.drewN m) (.inl rfl) _);have g1:=fun m=>(hl1.drewN m).c1;have g2:=fun m=>(hl1.drewN m).fz 1;rw[Int.natCast_add]at g1;have HP2:=yH hp2;have HBR:=yH (fun m=>hB _ X s z ⟨_,HL2.out m,hp2⟩ hs q);rw[hd]at HBR;have HIN:=yH h;obtain⟨k,hk⟩:∃k,ps.length=k:=⟨_,rfl⟩;have HK:=yH hk;have HLE:=yH (show k≤4000 by have:=hf.1;omega);clear h hs hf hM hl hp hp1 hl1 hk1 hin1 hp2 hple hd hk;go_enter Tryz.func88,Tryz.ntmps88;go_wp2_with fail;refine HAT.out.mono ?_;rintro e w1 ⟨rfl,m1,rfl⟩;have c11:=g1 m1;have f11:=g2 m1;clear g1 g2;go_wp2_with fail;refine(HBR.out m1).mono ?_;intro e w3 hE
  cases D with
  |error cc=>
    obtain⟨⟨T,O,a5,n5,k5,rfl⟩,hle,hk3⟩:=hE;have hrow:=HIN.out.row.keptX ((HK2.out m1).on hk3) HIN.out.hX;have hb3:=Nat.le_trans HIN.out.hB ((HK2.out m1).on hk3).size;obtain⟨vs,F,hpo⟩:=hrow;have HO:=yH (show ∀o1,(w3.alloc o1).ownsRow B 55 5 v k (rowCells ps vs)from fun o1=>by rw[←HK.out];exact hpo.own.alloc o1);have HZ:=yH (show ∀o1,B≤(w3.alloc o1).heap.size∧(w3.alloc o1).heap.size=w3.heap.size+1 from fun o1=>⟨by simp;omega,by simp⟩);have HPO:=yH hpo;have H3:=yH (And.intro hle ((HK2.out m1).on hk3));clear hle hk3 hb3 hpo
    go_wp2_with (at_builtin;refine prt_append rfl _ _ rfl B _ k _ rfl (HO.out _) ⟨w3.heap.size,0,none⟩ _ _ _ _ _ rfl (prt_news _ _) (by intro x hx;simp at hx;rcases hx with rfl|rfl|rfl|rfl|rfl<;>rfl) HLE.out (HZ.out _).1 (w3.heap.size+1) (HZ.out _).2 ?_;intro g cap w4 hown hg hat _;have H4:=yH (And.intro hown (And.intro hg hat));clear hown hg hat)
    go_ret;have hkk:Kept (fun k=>B≤k) w3 w4:=Kept.grown (D:=fun k=>B≤k) ((Kept.refl _ w3).alloc _) H4.out.2.1 fun j e=> .inl (World.ownsRow.lt HPO.out.own j e).1;exact⟨⟨_,_,_,rfl⟩,H3.out.1.kept hkk (fun k hk=>by have:=HIN.out.hX;omega),H3.out.2.wideX.on hkk.wideP⟩
  |ok a=>
    obtain⟨p,r'⟩:=a;obtain⟨u,T,O,hT,hO,rfl,hwn,hle,hk3⟩:=hE;obtain⟨a5,n5,k5,rfl⟩:=wordN_shape hwn;have hrow2:=HIN.out.row.keptX (HK2.out m1) HIN.out.hX;have hb2:=Nat.le_trans HIN.out.hB (HK2.out m1).size;obtain⟨vs,F,hpo2⟩:=hrow2;have hpo:=hpo2.kept hk3 fun j h1 _ e=>(by have:=HIN.out.hX;omega);have HO:=yH (show ∀o1,(w3.alloc o1).ownsRow B 55 5 v k (rowCells ps vs)from fun o1=>by rw[←HK.out];exact hpo.own.alloc o1);have HZ:=yH (show ∀o1,B≤(w3.alloc o1).heap.size∧(w3.alloc o1).heap.size=w3.heap.size+1 from fun o1=>⟨by have:=hk3.size;simp;omega,by simp⟩);have HPO:=yH (And.intro hpo2 (And.intro hpo hb2));have H3:=yH (And.intro hle (And.intro ((HK2.out m1).on hk3) (And.intro hT (And.intro hO hwn))));clear hle hk3 hpo hpo2 hb2 hT hO hwn
    go_wp2_with (at_builtin;refine prt_append rfl _ _ rfl B _ k _ rfl (HO.out _) ⟨w3.heap.size,0,none⟩ _ _ _ _ _ rfl (prt_news _ _) (by intro x hx;simp at hx;rcases hx with rfl|rfl|rfl|rfl|rfl<;>rfl) HLE.out (HZ.out _).1 (w3.heap.size+1) (HZ.out _).2 ?_;intro g cap w4 hown hg hat _;have H4:=yH (And.intro hown (And.intro hg hat));clear hown hg hat)
    go_ret;obtain⟨k1,k2⟩:=HPO.out.2.1.putend (p:= { p with q:=q }) HK.out rfl H3.out.2.2.2.2 HPO.out.2.2 (fun g hg=>(World.ownsRow.lt HPO.out.1.own g hg).2) H3.out.2.2.1 H3.out.2.2.2.1 H4.out.1 H4.out.2.1 H4.out.2.2;exact⟨_,rfl,H3.out.1.keptB k2 HIN.out.hX,k1,H3.out.2.1.wideX.on k2.wideP⟩
set_option maxHeartbeats 2000000 in
theorem rdollar_arith {depth:Nat} {br:List Nat→Res Pt} {w:World} {X B:Nat} {s:ByteArray} {v:Value} {z:List Nat} {ps:List Pt} (h:PIn w X s B v (36::40::40::z) ps) (hs:s.size≤2000) (hf:Fits (36::40::40::z) ps) (q:Bool):
    Calls Tryz.prog 88 #[.pointer (some ⟨X,0,none⟩),v,.bool q,.int .i64 (depth:Int)] w fun e w'=>PrtEnd w w' e X s B (dollarM br q (36::40::40::z) ps):=by
  have hM:dollarM br q (36::40::40::z) ps=match arithM z 0 []with
      | .error e=> .error e
      | .ok (l,r')=> .ok (ps++ [⟨3,enc l,[],[],q⟩],r'):=by
    unfold dollarM;simp only[List.tail_cons];rw[show takes [123] (40::40::z)=none by simp[takes],show takes [40,40] (40::40::z)=some z by simp[takes]];dsimp only
    cases arithM z 0 []<;>rfl
  obtain⟨D,hd⟩:∃D,arithM z 0 []=D:=⟨_,rfl⟩;rw[hd]at hM;rw[hM];obtain⟨i,hl,hp⟩:=h.lex;obtain⟨hp1,hl1,hk1,hin1⟩:=dollar_step h hl hp;have hp2:=hp1.fbn1 (by decide);have hp3:=hp2.fbn1 (by decide);have c1:=hl.c1;have f1:=hl.fz 1;have hple:=hp3.le;have hi2:(i:Int)+3≤2000:=(by omega);have HAT:=yH (rat_any hl1 0 (by omega));rw[Nat.add_zero,hp1.fbn,show fbn (40::40::z)=40 from rfl]at HAT;have HAT1:=yH (fun m=>rat_any (hl1.drewN m) 1 (by omega));rw[hp2.fbn,show fbn (40::z)=40 from rfl]at HAT1;have HL2:=yH (show ∀m,Lx (((w.setCell ⟨X,1,none⟩ (.int .i64 ((i:Int)+1))).drewN m).setCell ⟨X,1,none⟩ (.int .i64 ((i:Int)+1+2))) X s ((i+1+1+1:Nat):Int) 0 from fun m=>(hl1.drewN m).put1 _);have HK2:=yH (show ∀m,Kept (fun k=>k=X) w (((w.setCell ⟨X,1,none⟩ (.int .i64 ((i:Int)+1))).drewN m).setCell ⟨X,1,none⟩ (.int .i64 ((i:Int)+1+2)))from fun m=>Kept.setCell (D:=fun k=>k=X) (hk1.drewN m) (.inl rfl) _);have g1:=fun m=>(hl1.drewN m).c1;have g2:=fun m=>(hl1.drewN m).fz 1;rw[Int.natCast_add]at g1;have HAR:=yH (fun m=>rarith_any ⟨_,HL2.out m,hp3⟩ hs);rw[hd]at HAR;have HIN:=yH h;obtain⟨k,hk⟩:∃k,ps.length=k:=⟨_,rfl⟩;have HK:=yH hk;have HLE:=yH (show k≤4000 by have:=hf.1;omega);clear h hs hf hM hl hp hp1 hl1 hk1 hin1 hp2 hp3 hple hd hk;go_enter Tryz.func88,Tryz.ntmps88;go_wp2_with fail;refine HAT.out.mono ?_;rintro e w1 ⟨rfl,m1,rfl⟩;go_wp2_with fail;refine(HAT1.out _).mono ?_;rintro e w2 ⟨rfl,m2,rfl⟩;have c11:=g1 (m1+m2);have f11:=g2 (m1+m2);clear g1 g2;go_wp2_with fail;refine(HAR.out (m1+m2)).mono ?_;intro e w3 hE
  cases D with
  |error cc=>
    obtain⟨⟨T,rfl⟩,hle,hk3⟩:=hE;have hrow:=HIN.out.row.keptX ((HK2.out (m1+m2)).on hk3) HIN.out.hX;have hb3:=Nat.le_trans HIN.out.hB ((HK2.out (m1+m2)).on hk3).size;obtain⟨vs,F,hpo⟩:=hrow;have HO:=yH (show ∀o1,(w3.alloc o1).ownsRow B 55 5 v k (rowCells ps vs)from fun o1=>by rw[←HK.out];exact hpo.own.alloc o1);have HZ:=yH (show ∀o1,B≤(w3.alloc o1).heap.size∧(w3.alloc o1).heap.size=w3.heap.size+1 from fun o1=>⟨by simp;omega,by simp⟩);have HPO:=yH hpo;have H3:=yH (And.intro hle ((HK2.out (m1+m2)).on hk3));clear hle hk3 hb3 hpo
    go_wp2_with (at_builtin;refine prt_append rfl _ _ rfl B _ k _ rfl (HO.out _) ⟨w3.heap.size,0,none⟩ _ _ _ _ _ rfl (prt_news _ _) (by intro x hx;simp at hx;rcases hx with rfl|rfl|rfl|rfl|rfl<;>rfl) HLE.out (HZ.out _).1 (w3.heap.size+1) (HZ.out _).2 ?_;intro g cap w4 hown hg hat _;have H4:=yH (And.intro hown (And.intro hg hat));clear hown hg hat)
    go_ret;have hkk:Kept (fun k=>B≤k) w3 w4:=Kept.grown (D:=fun k=>B≤k) ((Kept.refl _ w3).alloc _) H4.out.2.1 fun j e=> .inl (World.ownsRow.lt HPO.out.own j e).1;exact⟨⟨_,_,_,rfl⟩,H3.out.1.kept hkk (fun k hk=>by have:=HIN.out.hX;omega),H3.out.2.wideX.on hkk.wideP⟩
  |ok a=>
    obtain⟨l,r'⟩:=a;obtain⟨rfl,hle,hk3⟩:=hE;obtain⟨T,hT⟩:∃T:ByteArray,txt (enc l)= .string T:=⟨_,rfl⟩;rw[hT];have hrow:=HIN.out.row.keptX ((HK2.out (m1+m2)).on hk3) HIN.out.hX;have hb3:=Nat.le_trans HIN.out.hB ((HK2.out (m1+m2)).on hk3).size;obtain⟨vs,F,hpo⟩:=hrow;have HO:=yH (show ∀o1,(w3.alloc o1).ownsRow B 55 5 v k (rowCells ps vs)from fun o1=>by rw[←HK.out];exact hpo.own.alloc o1);have HZ:=yH (show ∀o1,B≤(w3.alloc o1).heap.size∧(w3.alloc o1).heap.size=w3.heap.size+1 from fun o1=>⟨by simp;omega,by simp⟩);have HPO:=yH (And.intro hpo hb3);have H3:=yH (And.intro hle (And.intro ((HK2.out (m1+m2)).on hk3) hT));clear hle hk3 hpo hb3 hT
    go_wp2_with (at_builtin;refine prt_append rfl _ _ rfl B _ k _ rfl (HO.out _) ⟨w3.heap.size,0,none⟩ _ _ _ _ _ rfl (prt_news _ _) (by intro x hx;simp at hx;rcases hx with rfl|rfl|rfl|rfl|rfl<;>rfl) HLE.out (HZ.out _).1 (w3.heap.size+1) (HZ.out _).2 ?_;intro g cap w4 hown hg hat _;have H4:=yH (And.intro hown (And.intro hg hat));clear hown hg hat)
    go_ret;obtain⟨k1,k2⟩:=HPO.out.1.litend (p:=⟨3,enc l,[],[],q⟩) HPO.out.2 HK.out rfl (WordN.nil _ _) H3.out.2.2 rfl H4.out.1 H4.out.2.1 H4.out.2.2;exact⟨_,rfl,H3.out.1.keptB k2 HIN.out.hX,k1,H3.out.2.1.wideX.on k2.wideP⟩
theorem rparam_any {w:World} {X:Nat} {s:ByteArray} {xs:List Nat} (h:LexAt w X s xs) (hs:s.size≤2000) (hf:firstR (next xs:Int)=true∨other (next xs)=true):
    Calls Tryz.prog 131 #[.pointer (some ⟨X,0,none⟩)] w fun e w'=>StrEnd w w' e X s (parameterM xs):=by
  cases ho:other (next xs)with
  |true=>exact rparam_other h hs ho
  |false=>exact rparam_name h hs (hf.resolve_right (by rw[ho];decide)) ho
set_option maxHeartbeats 2000000 in
theorem rdollar_param {depth:Nat} {br:List Nat→Res Pt} {w:World} {X B:Nat} {s:ByteArray} {v:Value} {r:List Nat} {ps:List Pt} (h:PIn w X s B v (36::r) ps) (hs:s.size≤2000) (hf:Fits (36::r) ps) (q:Bool)
    (hfo:firstR (next r:Int)=true∨other (next r)=true):
    Calls Tryz.prog 88 #[.pointer (some ⟨X,0,none⟩),v,.bool q,.int .i64 (depth:Int)] w fun e w'=>PrtEnd w w' e X s B (dollarM br q (36::r) ps):=by
  have n123:next r≠123:=fun e=>(by rw[e]at hfo;revert hfo;decide);have n40:next r≠40:=fun e=>(by rw[e]at hfo;revert hfo;decide)
  have hM:dollarM br q (36::r) ps=match parameterM r with
      | .error e=> .error e
      | .ok (l,r')=> .ok (ps++ [⟨2,enc l,[],[],q⟩],r'):=by
    unfold dollarM;simp only[List.tail_cons]
    rw[show takes [123] r=none by rw[takes_one,if_neg fun e=>n123 e.1],show takes [40,40] r=none by
      cases r with
      |nil=>rfl
      |cons c z=>rw[takes,if_neg fun e=>n40 e.symm]]
    dsimp only
    have hcond:(firstR (next r:Int)||other (next r))=true:=by rcases hfo with e|e<;>rw[e]<;>simp
    refine(if_pos hcond).trans ?_
    cases parameterM r<;>rfl
  obtain⟨D,hd⟩:∃D,parameterM r=D:=⟨_,rfl⟩;rw[hd]at hM;rw[hM];obtain⟨i,hl,hp⟩:=h.lex;obtain⟨hp1,hl1,hk1,hin1⟩:=dollar_step h hl hp;have c1:=hl.c1;have f1:=hl.fz 1;have hple:=hp1.le;have hi2:(i:Int)≤2000:=(by omega);have HAT:=yH (rat_any hl1 0 (by omega));rw[Nat.add_zero,hp1.fbn]at HAT;have hgood:=hp1.good;have HPA:=yH (fun m=>rparam_any (show LexAt ((w.setCell ⟨X,1,none⟩ (.int .i64 ((i:Int)+1))).drewN m) X s r from⟨_,hl1.drewN m,hp1⟩) hs hfo);rw[hd]at HPA;have HK2:=yH (show ∀m,Kept (fun k=>k=X) w ((w.setCell ⟨X,1,none⟩ (.int .i64 ((i:Int)+1))).drewN m)from fun m=>hk1.drewN m);rw[←firstR_fbn hgood,←other_fbn hgood]at hfo;have hcv:=conv_u8 _ (fbn_lt hgood);have m123:fbn r≠123:=fun e=>n123 ((fbn_iff hgood (by decide)).1 e);have m40:fbn r≠40:=fun e=>n40 ((fbn_iff hgood (by decide)).1 e);obtain⟨b,hb⟩:∃b,fbn r=b:=⟨_,rfl⟩;rw[hb]at HAT hfo hcv m123 m40;have y123:((b:Int)==123)=false:=rne m123;have y40:((b:Int)==40)=false:=rne m40;have HIN:=yH h;obtain⟨k,hk⟩:∃k,ps.length=k:=⟨_,rfl⟩;have HK:=yH hk;have HLE:=yH (show k≤4000 by have:=hf.1;omega);clear h hs hf hM hl hp hp1 hl1 hk1 hin1 hple hd hk hgood n123 n40 m123 m40 hb;obtain⟨oo,hoo⟩:∃oo,other b=oo:=⟨_,rfl⟩;rw[hoo]at hfo
  have hff:oo=true∨(oo=false∧firstR (b:Int)=true):=by
    cases oo
    · right;exact⟨rfl,by simpa using hfo⟩
    · left;rfl
  clear hfo;go_enter Tryz.func88,Tryz.ntmps88;go_wp2_with fail;refine HAT.out.mono ?_;rintro e w1 ⟨rfl,m1,rfl⟩
  rcases hff with rfl|⟨rfl,hfi⟩
  · go_wp2_with ((go_at_call 130;refine(rspecial_any b _).mono ?_;rintro e w3 ⟨rfl,rfl⟩;rw[hoo]))
    refine(HPA.out m1).mono ?_;intro e w3 hE
    cases D with
    |error cc=>
      obtain⟨⟨T,rfl⟩,hle,hk3⟩:=hE;have hrow:=HIN.out.row.keptX ((HK2.out m1).on hk3) HIN.out.hX;have hb3:=Nat.le_trans HIN.out.hB ((HK2.out m1).on hk3).size;obtain⟨vs,F,hpo⟩:=hrow;have HO:=yH (show ∀o1,(w3.alloc o1).ownsRow B 55 5 v k (rowCells ps vs)from fun o1=>by rw[←HK.out];exact hpo.own.alloc o1);have HZ:=yH (show ∀o1,B≤(w3.alloc o1).heap.size∧(w3.alloc o1).heap.size=w3.heap.size+1 from fun o1=>⟨by simp;omega,by simp⟩);have HPO:=yH hpo;have H3:=yH (And.intro hle ((HK2.out m1).on hk3));clear hle hk3 hb3 hpo
      go_wp2_with (at_builtin;refine prt_append rfl _ _ rfl B _ k _ rfl (HO.out _) ⟨w3.heap.size,0,none⟩ _ _ _ _ _ rfl (prt_news _ _) (by intro x hx;simp at hx;rcases hx with rfl|rfl|rfl|rfl|rfl<;>rfl) HLE.out (HZ.out _).1 (w3.heap.size+1) (HZ.out _).2 ?_;intro g cap w4 hown hg hat _;have H4:=yH (And.intro hown (And.intro hg hat));clear hown hg hat)
      go_ret;have hkk:Kept (fun k=>B≤k) w3 w4:=Kept.grown (D:=fun k=>B≤k) ((Kept.refl _ w3).alloc _) H4.out.2.1 fun j e=> .inl (World.ownsRow.lt HPO.out.own j e).1;exact⟨⟨_,_,_,rfl⟩,H3.out.1.kept hkk (fun k hk=>by have:=HIN.out.hX;omega),H3.out.2.wideX.on hkk.wideP⟩
    |ok a=>
      obtain⟨l,r'⟩:=a;obtain⟨rfl,hle,hk3⟩:=hE;obtain⟨T,hT⟩:∃T:ByteArray,txt (enc l)= .string T:=⟨_,rfl⟩;rw[hT];have hrow:=HIN.out.row.keptX ((HK2.out m1).on hk3) HIN.out.hX;have hb3:=Nat.le_trans HIN.out.hB ((HK2.out m1).on hk3).size;obtain⟨vs,F,hpo⟩:=hrow;have HO:=yH (show ∀o1,(w3.alloc o1).ownsRow B 55 5 v k (rowCells ps vs)from fun o1=>by rw[←HK.out];exact hpo.own.alloc o1);have HZ:=yH (show ∀o1,B≤(w3.alloc o1).heap.size∧(w3.alloc o1).heap.size=w3.heap.size+1 from fun o1=>⟨by simp;omega,by simp⟩);have HPO:=yH (And.intro hpo hb3);have H3:=yH (And.intro hle (And.intro ((HK2.out m1).on hk3) hT));clear hle hk3 hpo hb3 hT
      go_wp2_with (at_builtin;refine prt_append rfl _ _ rfl B _ k _ rfl (HO.out _) ⟨w3.heap.size,0,none⟩ _ _ _ _ _ rfl (prt_news _ _) (by intro x hx;simp at hx;rcases hx with rfl|rfl|rfl|rfl|rfl<;>rfl) HLE.out (HZ.out _).1 (w3.heap.size+1) (HZ.out _).2 ?_;intro g cap w4 hown hg hat _;have H4:=yH (And.intro hown (And.intro hg hat));clear hown hg hat)
      go_ret;obtain⟨k1,k2⟩:=HPO.out.1.litend (p:=⟨2,enc l,[],[],q⟩) HPO.out.2 HK.out rfl (WordN.nil _ _) H3.out.2.2 rfl H4.out.1 H4.out.2.1 H4.out.2.2;exact⟨_,rfl,H3.out.1.keptB k2 HIN.out.hX,k1,H3.out.2.1.wideX.on k2.wideP⟩
  · go_wp2_with (first
      |(go_at_call 130;refine(rspecial_any b _).mono ?_;rintro e w3 ⟨rfl,rfl⟩;rw[hoo])
      |(go_at_call 96;refine(rfirst_any (b:Int) _).mono ?_;rintro e w3 ⟨rfl,rfl⟩;rw[hfi]))
    refine(HPA.out m1).mono ?_;intro e w3 hE
    cases D with
    |error cc=>
      obtain⟨⟨T,rfl⟩,hle,hk3⟩:=hE;have hrow:=HIN.out.row.keptX ((HK2.out m1).on hk3) HIN.out.hX;have hb3:=Nat.le_trans HIN.out.hB ((HK2.out m1).on hk3).size;obtain⟨vs,F,hpo⟩:=hrow;have HO:=yH (show ∀o1,(w3.alloc o1).ownsRow B 55 5 v k (rowCells ps vs)from fun o1=>by rw[←HK.out];exact hpo.own.alloc o1);have HZ:=yH (show ∀o1,B≤(w3.alloc o1).heap.size∧(w3.alloc o1).heap.size=w3.heap.size+1 from fun o1=>⟨by simp;omega,by simp⟩);have HPO:=yH hpo;have H3:=yH (And.intro hle ((HK2.out m1).on hk3));clear hle hk3 hb3 hpo
      go_wp2_with (at_builtin;refine prt_append rfl _ _ rfl B _ k _ rfl (HO.out _) ⟨w3.heap.size,0,none⟩ _ _ _ _ _ rfl (prt_news _ _) (by intro x hx;simp at hx;rcases hx with rfl|rfl|rfl|rfl|rfl<;>rfl) HLE.out (HZ.out _).1 (w3.heap.size+1) (HZ.out _).2 ?_;intro g cap w4 hown hg hat _;have H4:=yH (And.intro hown (And.intro hg hat));clear hown hg hat)
      go_ret;have hkk:Kept (fun k=>B≤k) w3 w4:=Kept.grown (D:=fun k=>B≤k) ((Kept.refl _ w3).alloc _) H4.out.2.1 fun j e=> .inl (World.ownsRow.lt HPO.out.own j e).1;exact⟨⟨_,_,_,rfl⟩,H3.out.1.kept hkk (fun k hk=>by have:=HIN.out.hX;omega),H3.out.2.wideX.on hkk.wideP⟩
    |ok a=>
      obtain⟨l,r'⟩:=a;obtain⟨rfl,hle,hk3⟩:=hE;obtain⟨T,hT⟩:∃T:ByteArray,txt (enc l)= .string T:=⟨_,rfl⟩;rw[hT];have hrow:=HIN.out.row.keptX ((HK2.out m1).on hk3) HIN.out.hX;have hb3:=Nat.le_trans HIN.out.hB ((HK2.out m1).on hk3).size;obtain⟨vs,F,hpo⟩:=hrow;have HO:=yH (show ∀o1,(w3.alloc o1).ownsRow B 55 5 v k (rowCells ps vs)from fun o1=>by rw[←HK.out];exact hpo.own.alloc o1);have HZ:=yH (show ∀o1,B≤(w3.alloc o1).heap.size∧(w3.alloc o1).heap.size=w3.heap.size+1 from fun o1=>⟨by simp;omega,by simp⟩);have HPO:=yH (And.intro hpo hb3);have H3:=yH (And.intro hle (And.intro ((HK2.out m1).on hk3) hT));clear hle hk3 hpo hb3 hT
      go_wp2_with (at_builtin;refine prt_append rfl _ _ rfl B _ k _ rfl (HO.out _) ⟨w3.heap.size,0,none⟩ _ _ _ _ _ rfl (prt_news _ _) (by intro x hx;simp at hx;rcases hx with rfl|rfl|rfl|rfl|rfl<;>rfl) HLE.out (HZ.out _).1 (w3.heap.size+1) (HZ.out _).2 ?_;intro g cap w4 hown hg hat _;have H4:=yH (And.intro hown (And.intro hg hat));clear hown hg hat)
      go_ret;obtain⟨k1,k2⟩:=HPO.out.1.litend (p:=⟨2,enc l,[],[],q⟩) HPO.out.2 HK.out rfl (WordN.nil _ _) H3.out.2.2 rfl H4.out.1 H4.out.2.1 H4.out.2.2;exact⟨_,rfl,H3.out.1.keptB k2 HIN.out.hX,k1,H3.out.2.1.wideX.on k2.wideP⟩
theorem rdollar_do {depth:Nat} {br:List Nat→Res Pt} (hB:RBraceDo depth br):RDollarDo depth br:=by
  intro w X s B v r ps h hs hf q
  cases h1:takes [123] r with
  |some z=>
    have:=takes_length _ _ _ h1;subst this;exact rdollar_brace hB h hs hf q
  |none=>
    cases h2:takes [40,40] r with
    |some z=>
      have:=takes_length _ _ _ h2;subst this;exact rdollar_arith h hs hf q
    |none=>
      cases h3:firstR (next r:Int)with
      |true=>exact rdollar_param h hs hf q (.inl h3)
      |false=>
        cases h4:other (next r)with
        |true=>exact rdollar_param h hs hf q (.inr h4)
        |false=>exact rdollar_lit h hs hf q h1 h2 h3 h4
end Go.Proofs.YtcpmjkefbjbhpaaGreatDoor
