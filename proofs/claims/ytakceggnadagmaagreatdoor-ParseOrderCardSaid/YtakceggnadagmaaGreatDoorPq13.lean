/-
  Proved: contracts of functions, plain facts. Conditions: as each says.
-/
import Derived.Test.YtakceggnadagmaaGreatDoorPq12
namespace Go.Proofs.YtakceggnadagmaaGreatDoor
open Go Go.RowKit GlyphMath LexMath
def PartsEnd (w w':World) (e:Ending) (X G sz:Nat) (m:Res (List Pt)):Prop:=
  match m with
  | .ok (ps,xs)=> ∃v,e= .returned (.tuple #[v,.int .i64 0])∧WordN w' w.heap.size v ps∧Rd w' X G sz xs∧Kept (fun k=>k=X) w w'
  | .error c=>(c=2∨c=3)∧e= .returned (.tuple #[zeroV,.int .i64 (c:Int)])∧Kept (fun k=>k=X) w w'
def PartsDo (depth:Nat) (f:List Nat→Res (List Pt)):Prop:=
  ∀(w:World) (X G sz:Nat) (xs:List Nat),Rd w X G sz xs→Calls Tryz.prog 75 #[.pointer (some ⟨X,0,none⟩),.int .i64 (depth:Int)] w fun e w'=>PartsEnd w w' e X G sz (f xs)
def BraceDo (depth:Nat) (f:List Nat→Res Pt):Prop:=
  ∀(w:World) (X G sz:Nat) (xs:List Nat),Rd w X G sz xs→Calls Tryz.prog 147 #[.pointer (some ⟨X,0,none⟩),.int .i64 (depth:Int)] w fun e w'=>PartEnd w w' e X G sz (f xs)
theorem firstT (c:Nat) (w:World):Calls Tryz.prog 149 #[.int .i32 (c:Int)] w fun e w'=>e= .returned (.bool (firstR (c:Int)))∧w=w':=first_any _ w
theorem two_vars {w w':World} {X:Nat} {Z1:Obj} (hX:X<w.heap.size) (k:Kept (fun k=>k=X) ((w.alloc Z1).alloc ZB) w') (h1:(w.alloc Z1).heap[w.heap.size]? =some Z1):
    w'.heap[w.heap.size]? =some Z1∧w'.heap[w.heap.size+1]? =some ZB∧Kept (fun k=>k=X) w w':=by
  have e1:((w.alloc Z1).alloc ZB).heap[w.heap.size]? =some Z1:=(Below.heap_alloc _ _ _ (by simp)).trans h1
  have e2:((w.alloc Z1).alloc ZB).heap[w.heap.size+1]? =some ZB:=by
    have:=heap_alloc_new (w.alloc Z1) ZB
    rwa [show (w.alloc Z1).heap.size=w.heap.size+1 by simp]at this
  exact⟨k.heap e1 (fun e=>by omega),k.heap e2 (fun e=>by omega),(Kept.of_below (((Below.refl _ w).alloc (Nat.le_refl _) Z1).alloc (by simp) ZB)).on k⟩
def VB (T O:ByteArray):Obj:= .cells #[.int .i64 2,.string T,.string O,.slice none 0 0,.bool false] 113
theorem hash_text {l:List Nat} (hl:∀c∈l,GoodL c) {T:ByteArray} (hT:txt (enc l)= .string T):(T.toList== [35])=decide (l= [35]):=by
  have e:(⟨(enc l).toArray⟩:ByteArray)=T:=(by simpa [txt]using hT);subst e;rw[Lib.toList_data]
  by_cases h:l= [35]
  · subst h;decide
  · rw[decide_eq_false h]
    cases hc:((⟨(enc l).toArray⟩:ByteArray).data.toList== [35])with
    |false=>rfl
    |true=>
      have h1:enc l= [35]:=(by simpa using hc);have h2:=letters_enc l hl;rw[h1]at h2
      have h3:letters ⟨[35].toArray⟩= [35]:=letters_enc [35] (fun c hc=>by
        obtain rfl:c=35:=by simpa using hc
        exact⟨by decide,by decide,.inl (by decide)⟩)
      exact absurd (h2.symm.trans h3) h
theorem Rd.one {w:World} {X G sz:Nat} {xs:List Nat} (h:Rd w X G sz xs) (a:Addr) (hX:X≠a.block) (hG:G≠a.block) (v:Value):Rd (w.setCell a v) X G sz xs:=
  h.kept (D:=fun j=>j=a.block) (Kept.setCell (D:=fun j=>j=a.block) (Kept.refl _ _) (.inl rfl) v) hX hG
theorem part_set {w:World} {k:Nat} {a b c d e:Value} {t:TypeId} (h:w.heap[k]? =some (.cells #[a,b,c,d,e] t (0,0))) (x:Value):
    (w.setCell ⟨k,2,none⟩ x).heap[k]? =some (.cells #[a,b,x,d,e] t (0,0))∧(w.setCell ⟨k,3,none⟩ x).heap[k]? =some (.cells #[a,b,c,x,e] t (0,0)):=⟨heap_setCell_same w k 2 _ t x h,heap_setCell_same w k 3 _ t x h⟩
theorem new_first (w:World) (o:Obj):(w.alloc o).heap[w.heap.size]? =some o:=heap_alloc_new w o
def wordEnd (l:List Nat) (o:List UInt8) (m:Res (List Pt)):Res Pt:=
  match m with
  | .error e=> .error e
  | .ok (w,r')=> .ok (⟨2,enc l,o,w,false⟩,r')
def opEnd (f:List Nat→Res (List Pt)) (l:List Nat) (m:Option (List UInt8×List Nat)):Res Pt:=
  match m with
  |none=> .error 2
  |some (o,r)=>wordEnd l o (f r)
theorem operation_else (f:List Nat→Res (List Pt)) (l xs:List Nat) (h:¬(l= [35]∧firstR (next xs:Int)=true)):operationM f l xs=opEnd f l (opM (nameL l) xs):=by
  unfold operationM;rw[if_neg h]
  cases opM (nameL l) xs with
  |none=>rfl
  |some a=>
    obtain⟨o,r⟩:=a;simp only[opEnd,wordEnd]
    cases f r<;>rfl
set_option maxHeartbeats 1000000 in
set_option maxRecDepth 100000 in
theorem operation_other {depth:Nat} {f:List Nat→Res (List Pt)} (hP:PartsDo (depth+1) f) (hd:depth≤100) {w:World} {X G sz:Nat} {xs l:List Nat} (h:Rd w X G sz xs) (hl:∀c∈l,GoodL c) (hne:l≠ [35]∨firstR (next xs:Int)=false) (T:ByteArray) (hT:txt (enc l)= .string T):
    Calls Tryz.prog 174 #[.pointer (some ⟨X,0,none⟩),.agg #[.int .i64 2,.string T,.string ⟨#[]⟩,.slice none 0 0,.bool false],.int .i64 (depth:Int)] w fun e w'=>PartEnd w w' e X G sz (operationM f l xs):=by
  have hX:=h.lt;have hr0:Rd ((w.alloc (VB T ⟨#[]⟩)).alloc ZB) X G sz xs:=h.below (((Below.refl _ w).alloc (Nat.le_refl _) _).alloc (by simp) _);have HR0:=yH hr0;have HN:=yH (next_any hr0);obtain⟨fb,hfb⟩:∃fb,firstR (next xs:Int)=fb:=⟨_,rfl⟩;have HFI:=yH (fun W=>by have:=firstT (next xs) W;rw[hfb]at this;exact this);obtain⟨hb,hhb⟩:∃hb,(T.toList== [35])=hb:=⟨_,rfl⟩
  have hnot:(hb=true→fb=false):=fun e=>by
    rw[←hhb,hash_text hl hT,decide_eq_true_eq]at e
    rcases hne with h1|h1
    · exact absurd e h1
    · rw[←hfb];exact h1
  obtain⟨m,hm⟩:∃m,opM (nameL l) xs=m:=⟨_,rfl⟩;have HOP:=yH (show _ from by have:=op_any hr0 hl;rw[hT,hm]at this;exact this)
  have HM:=yH (show operationM f l xs=opEnd f l m by
    rw[←hm];refine operation_else f l xs ?_;rintro⟨h1,h2⟩
    rcases hne with h3|h3
    · exact h3 h1
    · rw[h2]at h3;cases h3)
  have HP:=yH hP;have HX:=yH hX;have HT:=yH hT;have hdi:(depth:Int)≤100:=(by omega);have hdj:(0:Int)≤(depth:Int):=(by omega);have hdk:((depth+1:Nat):Int)=(depth:Int)+1:=(by omega);have HDK:=yH hdk;clear h hl hne hT hX hr0 hP hm hd hdk hfb;have two:=fun (w':World) (k:Kept (fun k=>k=X) ((w.alloc (VB T ⟨#[]⟩)).alloc ZB) w')=>two_vars HX.out.1 k (new_first w _);have TWO:=yH two;clear two
  cases hb with
  |true=>
    obtain rfl:fb=false:=hnot rfl;clear hnot
    cases m with
    |none=>
      go_enter Tryz.func174,Tryz.ntmps174
      go_wp2_with (first
        |(go_at_call 72;refine HN.out.mono ?_;rintro e w1 ⟨rfl,rfl⟩;simp only[VB,ZB])
        |(go_at_call 149;refine(HFI.out _).mono ?_;rintro e w1 ⟨rfl,rfl⟩))
      refine HOP.out.mono ?_;rintro e w1 ⟨rfl,hs1⟩;rw[show txt []= .string ⟨#[]⟩from rfl];obtain⟨v1,v2,kw⟩:=TWO.out w1 hs1.2;obtain⟨d0,d1,d2,d3,d4⟩:=five_cells v1;have fz:=five_free v1;have f0:=fz 0;have f1:=fz 1;have f2:=fz 2;have f3:=fz 3;have f4:=fz 4;obtain⟨x0,x1,x2,x3,x4⟩:=five_cells v2;have gz:=five_free v2;have g0:=gz 0;have g1:=gz 1;have g2:=gz 2;have g3:=gz 3;have g4:=gz 4;have HV:=yH (And.intro v1 (And.intro v2 kw));have HS1:=yH hs1;clear v1 v2 kw fz gz hs1;go_wp2_with fail
      (try simp only[Exit.inBlock,Exit.then])
      obtain⟨v1,v2,kw⟩:=HV.out;have hx:=HX.out;refine bodyPost_ret (ret_part rfl (five_put ((Below.heap_setCell _ _ _ _ (by simp)).trans v2) _ _ _ _ _) rfl rfl) rfl ?_;rw[HM.out];refine⟨.inl rfl,⟨⟨2,enc l,[],[],false⟩,by rw[partV,HT.out];rfl⟩,?_⟩;exact(kw.trans ((Kept.refl (fun k=>w.heap.size≤k) w1).setCell (.inl (Nat.le_refl _)) _) (fun _ h=> .inr h)).trans (five_kept (D:=fun k=>w.heap.size≤k) (Kept.refl _ _) (.inl (by omega)) _ _ _ _ _) (fun _ h=> .inr h)
    |some a=>
      obtain⟨o,r⟩:=a;go_enter Tryz.func174,Tryz.ntmps174
      go_wp2_with (first
        |(go_at_call 72;refine HN.out.mono ?_;rintro e w1 ⟨rfl,rfl⟩;simp only[VB,ZB])
        |(go_at_call 149;refine(HFI.out _).mono ?_;rintro e w1 ⟨rfl,rfl⟩))
      refine HOP.out.mono ?_;rintro e w1 ⟨rfl,ho,hs1⟩;obtain⟨O,hO⟩:∃O:ByteArray,txt o= .string O:=⟨_,rfl⟩
      have hOe:O.toList.isEmpty=false:=by
        have e:(⟨o.toArray⟩:ByteArray)=O:=(by simpa [txt]using hO);rw[←e,Lib.toList_data]
        cases o with
        |nil=>exact absurd rfl ho
        |cons a b=>rfl
      rw[hO];have HO:=yH hO;clear ho hO;obtain⟨v1,v2,kw⟩:=TWO.out w1 hs1.2;obtain⟨d0,d1,d2,d3,d4⟩:=five_cells v1;have fz:=five_free v1;have f0:=fz 0;have f1:=fz 1;have f2:=fz 2;have f3:=fz 3;have f4:=fz 4;obtain⟨x0,x1,x2,x3,x4⟩:=five_cells v2;have gz:=five_free v2;have g0:=gz 0;have g1:=gz 1;have g2:=gz 2;have g3:=gz 3;have g4:=gz 4;have HV:=yH (And.intro v1 (And.intro v2 kw));have HS1:=yH hs1;clear v1 v2 kw fz gz hs1;go_wp2_with fail;have hx:=HX.out;obtain⟨w2,hw2⟩:∃w2,w1.setCell ⟨w.heap.size,2,none⟩ (.string O)=w2:=⟨_,rfl⟩;have hv2:=(part_set HV.out.1 (.string O)).1;rw[hw2]at hv2;have hz2:w2.heap[w.heap.size+1]? =some ZB:=(by rw[←hw2];exact(Below.heap_setCell _ _ _ _ (by simp)).trans HV.out.2.1);have hr2:Rd w2 X G sz r:=(by rw[←hw2];exact HS1.out.1.one _ (by simp;omega) (by simp;omega) _);have hk2:Kept (fun k=>k=X) w w2:=(by rw[←hw2];exact HV.out.2.2.trans ((Kept.refl (fun k=>w.heap.size≤k) w1).setCell (.inl (Nat.le_refl _)) _) (fun _ h=> .inr h));have hs2:w.heap.size+1<w2.heap.size:=(gS.1 hz2).1;have hp:=HP.out w2 X G sz r hr2;rw[HDK.out]at hp;obtain⟨fr,hfr⟩:∃fr,f r=fr:=⟨_,rfl⟩;rw[hfr]at hp;have HP2:=yH hp;have HFR:=yH hfr;have H2:=yH (And.intro hv2 (And.intro hz2 (And.intro hr2 (And.intro hk2 hs2))));have HW2:=yH hw2;clear hp hfr hv2 hz2 hr2 hk2 hs2 hx;rw[HW2.out];clear d0 d1 d2 d3 d4 f0 f1 f2 f3 f4 x0 x1 x2 x3 x4 g0 g1 g2 g3 g4 hw2
      cases fr with
      |error cc=>
        refine HP2.out.mono ?_;rintro e w3 ⟨hcc,rfl,hk3⟩;rw[show zeroV= .slice none 0 0 from rfl];have hx:=HX.out;have v1:=hk3.heap H2.out.1 (fun e=>by omega);have v2:=hk3.heap H2.out.2.1 (fun e=>by omega);obtain⟨d0,d1,d2,d3,d4⟩:=five_cells v1;have fz:=five_free v1;have f3:=fz 3;obtain⟨x0,x1,x2,x3,x4⟩:=five_cells v2;have gz:=five_free v2;have g0:=gz 0;have g1:=gz 1;have g2:=gz 2;have g3:=gz 3;have g4:=gz 4;have H3:=yH (And.intro v1 (And.intro v2 (And.intro hcc hk3)));clear v1 v2 fz gz hk3 hcc hx;go_wp2_with fail
        (try simp only[Exit.inBlock,Exit.then])
        obtain⟨v1,v2,hcc,hk3⟩:=H3.out;refine bodyPost_ret (ret_part rfl (five_put ((Below.heap_setCell _ _ _ _ (by simp)).trans v2) _ _ _ _ _) rfl rfl) rfl ?_;rw[HM.out,opEnd,HFR.out];refine⟨hcc,⟨⟨2,enc l,o,[],false⟩,by rw[partV,HT.out,HO.out];rfl⟩,?_⟩;exact((H2.out.2.2.2.1.on hk3).trans ((Kept.refl (fun k=>w.heap.size≤k) w3).setCell (.inl (Nat.le_refl _)) _) (fun _ h=> .inr h)).trans (five_kept (D:=fun k=>w.heap.size≤k) (Kept.refl _ _) (.inl (by omega)) _ _ _ _ _) (fun _ h=> .inr h)
      |ok bb=>
        obtain⟨ps,r'⟩:=bb;refine HP2.out.mono ?_;rintro e w3 ⟨v,rfl,hwn,hr3,hk3⟩;obtain⟨ad,cp,rfl⟩:=hwn.shape;obtain⟨np,hnp⟩:∃np,ps.length=np:=⟨_,rfl⟩;rw[hnp]at hwn ⊢;have hx:=HX.out;have v1:=hk3.heap H2.out.1 (fun e=>by omega);have v2:=hk3.heap H2.out.2.1 (fun e=>by omega);obtain⟨d0,d1,d2,d3,d4⟩:=five_cells v1;have fz:=five_free v1;have f3:=fz 3;obtain⟨x0,x1,x2,x3,x4⟩:=five_cells v2;have gz:=five_free v2;have g0:=gz 0;have g1:=gz 1;have g2:=gz 2;have g3:=gz 3;have g4:=gz 4;have H3:=yH (And.intro v1 (And.intro v2 (And.intro hwn (And.intro hr3 hk3))));clear v1 v2 fz gz hk3 hwn hr3 hx hnp;go_wp2_with fail
        (try simp only[Exit.inBlock,Exit.then])
        obtain⟨v1,v2,hwn,hr3,hk3⟩:=H3.out;have hx:=HX.out;have hkk:=(((Kept.refl (fun k=>k=w.heap.size∨k=w.heap.size+1) w3).setCell (p:=⟨w.heap.size,3,none⟩) (.inl (.inl rfl)) (.slice ad np cp)).on (five_kept (D:=fun k=>k=w.heap.size∨k=w.heap.size+1) (Kept.refl _ _) (.inl (.inr rfl)) (.int .i64 2) (.string T) (.string O) (.slice ad np cp) (.bool false)));have hs2:=H2.out.2.2.2.2;refine bodyPost_ret (ret_part rfl (five_put ((Below.heap_setCell _ _ _ _ (by simp)).trans v2) _ _ _ _ _) rfl rfl) rfl ?_;rw[HM.out,opEnd,HFR.out];refine⟨.slice ad np cp,by rw[partV,HT.out,HO.out];rfl,(hwn.kept hkk (fun k hk e=>by omega)).base (by omega),hr3.kept hkk (by omega) (by omega),?_⟩;exact(H2.out.2.2.2.1.on hk3).trans hkk (fun i h=> .inr (by omega))
  |false=>
    clear hnot
    cases m with
    |none=>
      go_enter Tryz.func174,Tryz.ntmps174;go_wp2_with fail;refine HOP.out.mono ?_;rintro e w1 ⟨rfl,hs1⟩;rw[show txt []= .string ⟨#[]⟩from rfl];obtain⟨v1,v2,kw⟩:=TWO.out w1 hs1.2;obtain⟨d0,d1,d2,d3,d4⟩:=five_cells v1;have fz:=five_free v1;have f0:=fz 0;have f1:=fz 1;have f2:=fz 2;have f3:=fz 3;have f4:=fz 4;obtain⟨x0,x1,x2,x3,x4⟩:=five_cells v2;have gz:=five_free v2;have g0:=gz 0;have g1:=gz 1;have g2:=gz 2;have g3:=gz 3;have g4:=gz 4;have HV:=yH (And.intro v1 (And.intro v2 kw));have HS1:=yH hs1;clear v1 v2 kw fz gz hs1;go_wp2_with fail
      (try simp only[Exit.inBlock,Exit.then])
      obtain⟨v1,v2,kw⟩:=HV.out;have hx:=HX.out;refine bodyPost_ret (ret_part rfl (five_put ((Below.heap_setCell _ _ _ _ (by simp)).trans v2) _ _ _ _ _) rfl rfl) rfl ?_;rw[HM.out];refine⟨.inl rfl,⟨⟨2,enc l,[],[],false⟩,by rw[partV,HT.out];rfl⟩,?_⟩;exact(kw.trans ((Kept.refl (fun k=>w.heap.size≤k) w1).setCell (.inl (Nat.le_refl _)) _) (fun _ h=> .inr h)).trans (five_kept (D:=fun k=>w.heap.size≤k) (Kept.refl _ _) (.inl (by omega)) _ _ _ _ _) (fun _ h=> .inr h)
    |some a=>
      obtain⟨o,r⟩:=a;go_enter Tryz.func174,Tryz.ntmps174;go_wp2_with fail;refine HOP.out.mono ?_;rintro e w1 ⟨rfl,ho,hs1⟩;obtain⟨O,hO⟩:∃O:ByteArray,txt o= .string O:=⟨_,rfl⟩
      have hOe:O.toList.isEmpty=false:=by
        have e:(⟨o.toArray⟩:ByteArray)=O:=(by simpa [txt]using hO);rw[←e,Lib.toList_data]
        cases o with
        |nil=>exact absurd rfl ho
        |cons a b=>rfl
      rw[hO];have HO:=yH hO;clear ho hO;obtain⟨v1,v2,kw⟩:=TWO.out w1 hs1.2;obtain⟨d0,d1,d2,d3,d4⟩:=five_cells v1;have fz:=five_free v1;have f0:=fz 0;have f1:=fz 1;have f2:=fz 2;have f3:=fz 3;have f4:=fz 4;obtain⟨x0,x1,x2,x3,x4⟩:=five_cells v2;have gz:=five_free v2;have g0:=gz 0;have g1:=gz 1;have g2:=gz 2;have g3:=gz 3;have g4:=gz 4;have HV:=yH (And.intro v1 (And.intro v2 kw));have HS1:=yH hs1;clear v1 v2 kw fz gz hs1;go_wp2_with fail;have hx:=HX.out;obtain⟨w2,hw2⟩:∃w2,w1.setCell ⟨w.heap.size,2,none⟩ (.string O)=w2:=⟨_,rfl⟩;have hv2:=(part_set HV.out.1 (.string O)).1;rw[hw2]at hv2;have hz2:w2.heap[w.heap.size+1]? =some ZB:=(by rw[←hw2];exact(Below.heap_setCell _ _ _ _ (by simp)).trans HV.out.2.1);have hr2:Rd w2 X G sz r:=(by rw[←hw2];exact HS1.out.1.one _ (by simp;omega) (by simp;omega) _);have hk2:Kept (fun k=>k=X) w w2:=(by rw[←hw2];exact HV.out.2.2.trans ((Kept.refl (fun k=>w.heap.size≤k) w1).setCell (.inl (Nat.le_refl _)) _) (fun _ h=> .inr h));have hs2:w.heap.size+1<w2.heap.size:=(gS.1 hz2).1;have hp:=HP.out w2 X G sz r hr2;rw[HDK.out]at hp;obtain⟨fr,hfr⟩:∃fr,f r=fr:=⟨_,rfl⟩;rw[hfr]at hp;have HP2:=yH hp;have HFR:=yH hfr;have H2:=yH (And.intro hv2 (And.intro hz2 (And.intro hr2 (And.intro hk2 hs2))));have HW2:=yH hw2;clear hp hfr hv2 hz2 hr2 hk2 hs2 hx;rw[HW2.out];clear d0 d1 d2 d3 d4 f0 f1 f2 f3 f4 x0 x1 x2 x3 x4 g0 g1 g2 g3 g4 hw2
      cases fr with
      |error cc=>
        refine HP2.out.mono ?_;rintro e w3 ⟨hcc,rfl,hk3⟩;rw[show zeroV= .slice none 0 0 from rfl];have hx:=HX.out;have v1:=hk3.heap H2.out.1 (fun e=>by omega);have v2:=hk3.heap H2.out.2.1 (fun e=>by omega);obtain⟨d0,d1,d2,d3,d4⟩:=five_cells v1;have fz:=five_free v1;have f3:=fz 3;obtain⟨x0,x1,x2,x3,x4⟩:=five_cells v2;have gz:=five_free v2;have g0:=gz 0;have g1:=gz 1;have g2:=gz 2;have g3:=gz 3;have g4:=gz 4;have H3:=yH (And.intro v1 (And.intro v2 (And.intro hcc hk3)));clear v1 v2 fz gz hk3 hcc hx;go_wp2_with fail
        (try simp only[Exit.inBlock,Exit.then])
        obtain⟨v1,v2,hcc,hk3⟩:=H3.out;refine bodyPost_ret (ret_part rfl (five_put ((Below.heap_setCell _ _ _ _ (by simp)).trans v2) _ _ _ _ _) rfl rfl) rfl ?_;rw[HM.out,opEnd,HFR.out];refine⟨hcc,⟨⟨2,enc l,o,[],false⟩,by rw[partV,HT.out,HO.out];rfl⟩,?_⟩;exact((H2.out.2.2.2.1.on hk3).trans ((Kept.refl (fun k=>w.heap.size≤k) w3).setCell (.inl (Nat.le_refl _)) _) (fun _ h=> .inr h)).trans (five_kept (D:=fun k=>w.heap.size≤k) (Kept.refl _ _) (.inl (by omega)) _ _ _ _ _) (fun _ h=> .inr h)
      |ok bb=>
        obtain⟨ps,r'⟩:=bb;refine HP2.out.mono ?_;rintro e w3 ⟨v,rfl,hwn,hr3,hk3⟩;obtain⟨ad,cp,rfl⟩:=hwn.shape;obtain⟨np,hnp⟩:∃np,ps.length=np:=⟨_,rfl⟩;rw[hnp]at hwn ⊢;have hx:=HX.out;have v1:=hk3.heap H2.out.1 (fun e=>by omega);have v2:=hk3.heap H2.out.2.1 (fun e=>by omega);obtain⟨d0,d1,d2,d3,d4⟩:=five_cells v1;have fz:=five_free v1;have f3:=fz 3;obtain⟨x0,x1,x2,x3,x4⟩:=five_cells v2;have gz:=five_free v2;have g0:=gz 0;have g1:=gz 1;have g2:=gz 2;have g3:=gz 3;have g4:=gz 4;have H3:=yH (And.intro v1 (And.intro v2 (And.intro hwn (And.intro hr3 hk3))));clear v1 v2 fz gz hk3 hwn hr3 hx hnp;go_wp2_with fail
        (try simp only[Exit.inBlock,Exit.then])
        obtain⟨v1,v2,hwn,hr3,hk3⟩:=H3.out;have hx:=HX.out;have hkk:=(((Kept.refl (fun k=>k=w.heap.size∨k=w.heap.size+1) w3).setCell (p:=⟨w.heap.size,3,none⟩) (.inl (.inl rfl)) (.slice ad np cp)).on (five_kept (D:=fun k=>k=w.heap.size∨k=w.heap.size+1) (Kept.refl _ _) (.inl (.inr rfl)) (.int .i64 2) (.string T) (.string O) (.slice ad np cp) (.bool false)));have hs2:=H2.out.2.2.2.2;refine bodyPost_ret (ret_part rfl (five_put ((Below.heap_setCell _ _ _ _ (by simp)).trans v2) _ _ _ _ _) rfl rfl) rfl ?_;rw[HM.out,opEnd,HFR.out];refine⟨.slice ad np cp,by rw[partV,HT.out,HO.out];rfl,(hwn.kept hkk (fun k hk e=>by omega)).base (by omega),hr3.kept hkk (by omega) (by omega),?_⟩;exact(H2.out.2.2.2.1.on hk3).trans hkk (fun i h=> .inr (by omega))
def hashEnd (m:Res (List Nat)):Res Pt:=
  match m with
  | .error e=> .error e
  | .ok (l',r)=> .ok (⟨2,enc l',[35],[],false⟩,r)
theorem operation_is (f:List Nat→Res (List Pt)) (xs:List Nat) (h:firstR (next xs:Int)=true):operationM f [35] xs=hashEnd (parameterM xs):=by
  unfold operationM hashEnd;rw[if_pos ⟨rfl,h⟩]
  cases parameterM xs<;>rfl
theorem five_there {w:World} {k:Nat} {a b c d e:Value} {t:TypeId} (h:w.heap[k]? =some (.cells #[a,b,c,d,e] t (0,0))):w.there k 0 5:=by
  intro j hj;refine⟨?_,by rw[Nat.zero_add];exact five_free h j⟩;obtain⟨x0,x1,x2,x3,x4⟩:=five_cells h
  match j,hj with
  |0,_=>rw[x0];rfl
  |1,_=>rw[x1];rfl
  |2,_=>rw[x2];rfl
  |3,_=>rw[x3];rfl
  |4,_=>rw[x4];rfl
theorem five_stored {w w2:World} {k:Nat} {x0 x1 x2 x3 x4:Value} {t:TypeId} (h:w.heap[k]? =some (.cells #[x0,x1,x2,x3,x4] t (0,0))) {a b c d e:Value} (hw:w2=w.setCells k 0 (#[a,b,c,d,e]:Array Value).toList):
    w2.heap[k]? =some (.cells #[a,b,c,d,e] t (0,0))∧Kept (fun j=>j=k) w w2∧∀j,j≠k→w2.heap[j]? =w.heap[j]? :=by
  subst hw;have hk:Kept (fun j=>j=k) w (w.setCells k 0 (#[a,b,c,d,e]:Array Value).toList):=five_kept (D:=fun j=>j=k) (Kept.refl _ w) (.inl rfl) a b c d e;refine⟨five_put h a b c d e,hk,fun j hj=> ?_⟩;show(((((w.setCell ⟨k,0,none⟩ a).setCell ⟨k,1,none⟩ b).setCell ⟨k,2,none⟩ c).setCell ⟨k,3,none⟩ d).setCell ⟨k,4,none⟩ e).heap[j]? =_;rw[Below.heap_setCell _ _ _ _ hj,Below.heap_setCell _ _ _ _ hj,Below.heap_setCell _ _ _ _ hj,Below.heap_setCell _ _ _ _ hj,Below.heap_setCell _ _ _ _ hj]
set_option maxHeartbeats 400000 in
set_option maxRecDepth 100000 in
theorem operation_hash {depth:Nat} {f:List Nat→Res (List Pt)} {w:World} {X G sz:Nat} {xs:List Nat} (h:Rd w X G sz xs) (hfi:firstR (next xs:Int)=true):
    Calls Tryz.prog 174 #[.pointer (some ⟨X,0,none⟩),.agg #[.int .i64 2,.string ⟨#[35]⟩,.string ⟨#[]⟩,.slice none 0 0,.bool false],.int .i64 (depth:Int)] w fun e w'=>PartEnd w w' e X G sz (operationM f [35] xs):=by
  have hX:=h.lt;have hr0:Rd ((w.alloc (VB ⟨#[35]⟩ ⟨#[]⟩)).alloc ZB) X G sz xs:=h.below (((Below.refl _ w).alloc (Nat.le_refl _) _).alloc (by simp) _);have HN:=yH (next_any hr0);have HPA:=yH (parameter_any hr0);have HFI:=yH (fun W=>by have:=firstT (next xs) W;rw[hfi]at this;exact this);obtain⟨m,hm⟩:∃m,parameterM xs=m:=⟨_,rfl⟩;have HM:=yH (show operationM f [35] xs=hashEnd m by rw[←hm];exact operation_is f xs hfi);rw[hm]at HPA;have HX:=yH hX;have two:=fun (w':World) (k:Kept (fun k=>k=X) ((w.alloc (VB ⟨#[35]⟩ ⟨#[]⟩)).alloc ZB) w')=>two_vars hX.1 k (new_first w _);have TWO:=yH two;clear h hX hr0 hfi hm two
  cases m with
  |error cc=>
    go_enter Tryz.func174,Tryz.ntmps174
    go_wp2_with (first
      |(go_at_call 72;refine HN.out.mono ?_;rintro e w1 ⟨rfl,rfl⟩;simp only[VB,ZB])
      |(go_at_call 149;refine(HFI.out _).mono ?_;rintro e w1 ⟨rfl,rfl⟩))
    refine HPA.out.mono ?_;rintro e w1 ⟨hcc,rfl,hk1⟩;rw[show partV ⟨0,[],[],[],false⟩ zeroV= .agg #[.int .i64 0,.string ⟨#[]⟩,.string ⟨#[]⟩,.slice none 0 0,.bool false]from rfl];obtain⟨v1,v2,kw⟩:=TWO.out w1 hk1;obtain⟨d0,d1,d2,d3,d4⟩:=five_cells v1;have fz:=five_free v1;have f0:=fz 0;have f1:=fz 1;have f2:=fz 2;have f3:=fz 3;have f4:=fz 4;obtain⟨x0,x1,x2,x3,x4⟩:=five_cells v2;have gz:=five_free v2;have g0:=gz 0;have g1:=gz 1;have g2:=gz 2;have g3:=gz 3;have g4:=gz 4;have HV:=yH (And.intro v1 (And.intro v2 (And.intro kw hcc)));clear v1 v2 kw fz gz hk1 hcc d0 d1 d2 d3 d4 f0 f1 f2 f3 f4
    go_wp2_with (refine wpList_store_mid (by rfl) 113 (.tmp 4) (.tmp 20) (by rfl) w.heap.size 0 #[.int .i64 0,.string ⟨#[]⟩,.string ⟨#[]⟩,.slice none 0 0,.bool false] (by rfl) (by rfl) (five_there HV.out.1) part_info (by simp[Value.oneCell']) ?_;obtain⟨w2,hw2⟩:∃w2,w2=w1.setCells w.heap.size 0 (#[.int .i64 0,.string ⟨#[]⟩,.string ⟨#[]⟩,.slice none 0 0,.bool false]:Array Value).toList:=⟨_,rfl⟩;rw[←hw2];obtain⟨y1,y2,y3⟩:=five_stored HV.out.1 hw2;obtain⟨d0,d1,d2,d3,d4⟩:=five_cells y1;have f2:=five_free y1 2;have y4:=(y3 (w.heap.size+1) (by omega)).trans HV.out.2.1;clear x0 x1 x2 x3 x4 g0 g1 g2 g3 g4;obtain⟨x0,x1,x2,x3,x4⟩:=five_cells y4;have g0:=five_free y4 0;have g1:=five_free y4 1;have g2:=five_free y4 2;have g3:=five_free y4 3;have g4:=five_free y4 4;have HY:=yH (And.intro y1 (And.intro y2 y4));clear y1 y2 y3 y4 hw2)
    (try simp only[Exit.inBlock,Exit.then])
    obtain⟨y1,y2,y4⟩:=HY.out;obtain⟨v1,v2,kw,hcc⟩:=HV.out;have hk2:Kept (fun k=>w.heap.size≤k) w1 w2:=y2.mono fun k _ e=>(by omega);refine bodyPost_ret (ret_part rfl (five_put ((Below.heap_setCell _ _ _ _ (by simp)).trans y4) _ _ _ _ _) rfl rfl) rfl ?_;rw[HM.out,hcc];refine⟨.inl rfl,⟨⟨0,[],[35],[],false⟩,rfl⟩,?_⟩;exact((kw.trans hk2 (fun _ h=> .inr h)).trans ((Kept.refl (fun k=>w.heap.size≤k) w2).setCell (.inl (Nat.le_refl _)) _) (fun _ h=> .inr h)).trans (five_kept (D:=fun k=>w.heap.size≤k) (Kept.refl _ _) (.inl (by omega)) _ _ _ _ _) (fun _ h=> .inr h)
  |ok b=>
    obtain⟨l,r⟩:=b;go_enter Tryz.func174,Tryz.ntmps174
    go_wp2_with (first
      |(go_at_call 72;refine HN.out.mono ?_;rintro e w1 ⟨rfl,rfl⟩;simp only[VB,ZB])
      |(go_at_call 149;refine(HFI.out _).mono ?_;rintro e w1 ⟨rfl,rfl⟩))
    refine HPA.out.mono ?_;rintro e w1 ⟨rfl,hs1,hgl⟩;obtain⟨T,hT⟩:∃T:ByteArray,txt (enc l)= .string T:=⟨_,rfl⟩;rw[show partV ⟨2,enc l,[],[],false⟩ zeroV= .agg #[.int .i64 2,.string T,.string ⟨#[]⟩,.slice none 0 0,.bool false] by rw[partV,hT];rfl];obtain⟨v1,v2,kw⟩:=TWO.out w1 hs1.2;obtain⟨d0,d1,d2,d3,d4⟩:=five_cells v1;have fz:=five_free v1;have f0:=fz 0;have f1:=fz 1;have f2:=fz 2;have f3:=fz 3;have f4:=fz 4;obtain⟨x0,x1,x2,x3,x4⟩:=five_cells v2;have gz:=five_free v2;have g0:=gz 0;have g1:=gz 1;have g2:=gz 2;have g3:=gz 3;have g4:=gz 4;have HV:=yH (And.intro v1 (And.intro v2 (And.intro kw (And.intro hs1 hT))));clear v1 v2 kw fz gz hs1 hgl hT d0 d1 d2 d3 d4 f0 f1 f2 f3 f4
    go_wp2_with (refine wpList_store_mid (by rfl) 113 (.tmp 4) (.tmp 20) (by rfl) w.heap.size 0 #[.int .i64 2,.string T,.string ⟨#[]⟩,.slice none 0 0,.bool false] (by rfl) (by rfl) (five_there HV.out.1) part_info (by simp[Value.oneCell']) ?_;obtain⟨w2,hw2⟩:∃w2,w2=w1.setCells w.heap.size 0 (#[.int .i64 2,.string T,.string ⟨#[]⟩,.slice none 0 0,.bool false]:Array Value).toList:=⟨_,rfl⟩;rw[←hw2];obtain⟨y1,y2,y3⟩:=five_stored HV.out.1 hw2;obtain⟨d0,d1,d2,d3,d4⟩:=five_cells y1;have f2:=five_free y1 2;have y4:=(y3 (w.heap.size+1) (by omega)).trans HV.out.2.1;clear x0 x1 x2 x3 x4 g0 g1 g2 g3 g4;obtain⟨x0,x1,x2,x3,x4⟩:=five_cells y4;have g0:=five_free y4 0;have g1:=five_free y4 1;have g2:=five_free y4 2;have g3:=five_free y4 3;have g4:=five_free y4 4;have HY:=yH (And.intro y1 (And.intro y2 y4));clear y1 y2 y3 y4 hw2)
    (try simp only[Exit.inBlock,Exit.then])
    obtain⟨y1,y2,y4⟩:=HY.out;obtain⟨v1,v2,kw,hs1,hT⟩:=HV.out;have hx:=HX.out;have hk2:Kept (fun k=>w.heap.size≤k) w1 w2:=y2.mono fun k _ e=>(by omega)
    have hk3:Kept (fun k=>w.heap.size≤k) w2 ((((((w2.setCell ⟨w.heap.size,2,none⟩ (.string ⟨#[35]⟩)).setCell ⟨w.heap.size+1,0,none⟩ (.int .i64 2)).setCell ⟨w.heap.size+1,1,none⟩ (.string T)).setCell ⟨w.heap.size+1,2,none⟩ (.string ⟨#[35]⟩)).setCell ⟨w.heap.size+1,3,none⟩ (.slice none 0 0)).setCell ⟨w.heap.size+1,4,none⟩ (.bool false)):=
      ((Kept.refl (fun k=>w.heap.size≤k) w2).setCell (.inl (Nat.le_refl _)) _).on (five_kept (D:=fun k=>w.heap.size≤k) (Kept.refl _ _) (.inl (by omega)) _ _ _ _ _)
    refine bodyPost_ret (ret_part rfl (five_put ((Below.heap_setCell _ _ _ _ (by simp)).trans y4) _ _ _ _ _) rfl rfl) rfl ?_;rw[HM.out];refine⟨zeroV,by rw[partV,hT];rfl,WordN.nil _ _,(hs1.1.kept hk2 (by omega) (by omega)).kept hk3 (by omega) (by omega),?_⟩;exact(kw.trans hk2 (fun _ h=> .inr h)).trans hk3 (fun _ h=> .inr h)
theorem operation_any {depth:Nat} {f:List Nat→Res (List Pt)} (hP:PartsDo (depth+1) f) (hd:depth≤100) {w:World} {X G sz:Nat} {xs l:List Nat} (h:Rd w X G sz xs) (hl:∀c∈l,GoodL c) (T:ByteArray) (hT:txt (enc l)= .string T):
    Calls Tryz.prog 174 #[.pointer (some ⟨X,0,none⟩),.agg #[.int .i64 2,.string T,.string ⟨#[]⟩,.slice none 0 0,.bool false],.int .i64 (depth:Int)] w fun e w'=>PartEnd w w' e X G sz (operationM f l xs):=by
  by_cases h1:l= [35]
  · cases h2:firstR (next xs:Int)with
    |false=>exact operation_other hP hd h hl (.inr h2) T hT
    |true=>
      subst h1
      obtain rfl:T=⟨#[35]⟩:=by
        have e:(⟨(enc [35]).toArray⟩:ByteArray)=T:=(by simpa [txt]using hT);rw[←e];rfl
      exact operation_hash h h2
  · exact operation_other hP hd h hl (.inl h1) T hT
set_option maxHeartbeats 400000 in
set_option maxRecDepth 100000 in
theorem braces_lim (f:List Nat→Res (List Pt)):BraceDo 20 (bracesM true f):=by
  intro w X G sz xs h;have HX:=yH h.lt;clear h;go_enter Tryz.func147,Tryz.ntmps147;go_wp2_with fail
  (try simp only[Exit.inBlock,Exit.then])
  refine bodyPost_ret (ret_part rfl (heap_alloc_new w _) rfl rfl) rfl ?_;exact⟨.inr rfl,⟨⟨0,[],[],[],false⟩,rfl⟩,Kept.of_below ((Below.refl _ w).alloc (Nat.le_refl _) _)⟩
def closeEnd (p:Pt) (m:Option (List Nat)):Res Pt:=
  match m with
  |some r=> .ok (p,r)
  |none=> .error 2
theorem close_is (p:Pt) (xs:List Nat):closeM p xs=closeEnd p (takes [125] xs):=by
  unfold closeM closeEnd
  cases takes [125] xs<;>rfl
theorem brace_error {f:List Nat→Res (List Pt)} {xs:List Nat} {c:Nat} (h:parameterM xs= .error c):bracesM false f xs= .error c:=by
  unfold bracesM;rw[if_neg (by decide),h]
theorem brace_close {f:List Nat→Res (List Pt)} {xs l r:List Nat} (h:parameterM xs= .ok (l,r)) (hn:next r=125):bracesM false f xs= .ok (⟨2,enc l,[],[],false⟩,r.tail):=by
  unfold bracesM;rw[if_neg (by decide),h];simp only;rw[if_pos hn,close_is,takes_one,if_pos ⟨hn,fun e=>by rw[e]at hn;cases hn⟩];rfl
theorem brace_oper {f:List Nat→Res (List Pt)} {xs l r:List Nat} {c:Nat} (h:parameterM xs= .ok (l,r)) (hn:next r≠125) (ho:operationM f l r= .error c):bracesM false f xs= .error c:=by
  unfold bracesM;rw[if_neg (by decide),h];simp only;rw[if_neg hn,ho]
theorem brace_end {f:List Nat→Res (List Pt)} {xs l r r':List Nat} {p:Pt} (h:parameterM xs= .ok (l,r)) (hn:next r≠125) (ho:operationM f l r= .ok (p,r')):bracesM false f xs=closeEnd p (takes [125] r'):=by
  unfold bracesM;rw[if_neg (by decide),h];simp only;rw[if_neg hn,ho];exact close_is _ _
set_option maxHeartbeats 400000 in
set_option maxRecDepth 100000 in
theorem braces_any {depth:Nat} {f:List Nat→Res (List Pt)} (hP:PartsDo (depth+1) f) (hd:depth<20):BraceDo depth (bracesM false f):=by
  intro w X G sz xs h;have hr0:Rd (w.alloc ZB) X G sz xs:=h.below ((Below.refl _ w).alloc (Nat.le_refl _) _);have HX:=yH h.lt;have HPA:=yH (parameter_any hr0);obtain⟨m,hm⟩:∃m,parameterM xs=m:=⟨_,rfl⟩;rw[hm]at HPA;have HM:=yH hm;have hdi:¬(20:Int)≤(depth:Int):=(by omega);have HD:=yH hd;have HP:=yH hP
  have base:∀w',Kept (fun k=>k=X) (w.alloc ZB) w'→w'.heap[w.heap.size]? =some ZB∧Kept (fun k=>k=X) w w':=fun w' k=>
    ⟨k.heap (heap_alloc_new w ZB) (fun e=>by have:=h.lt.1;omega),(Kept.of_below ((Below.refl _ w).alloc (Nat.le_refl _) ZB)).on k⟩
  have HBASE:=yH base;clear h hr0 hm hP hd base
  cases m with
  |error cc=>
    go_enter Tryz.func147,Tryz.ntmps147;go_wp2_with fail;refine HPA.out.mono ?_;rintro e w1 ⟨hcc,rfl,hk1⟩;rw[show partV ⟨0,[],[],[],false⟩ zeroV= .agg #[.int .i64 0,.string ⟨#[]⟩,.string ⟨#[]⟩,.slice none 0 0,.bool false]from rfl];obtain⟨v1,kw⟩:=HBASE.out w1 hk1;have hlt:w.heap.size<w1.heap.size:=(gS.1 v1).1;obtain⟨x0,x1,x2,x3,x4⟩:=five_cells v1;have g0:=five_free v1 0;have g1:=five_free v1 1;have g2:=five_free v1 2;have g3:=five_free v1 3;have g4:=five_free v1 4;have HV:=yH (And.intro v1 (And.intro kw (And.intro hcc hlt)));clear v1 kw hk1 hcc;go_wp2_with fail
    (try simp only[Exit.inBlock,Exit.then])
    obtain⟨v1,kw,hcc,hlt⟩:=HV.out;subst hcc;refine bodyPost_ret (ret_part rfl ((Below.heap_alloc _ _ _ (by simp[World.setCell];omega)).trans (five_put v1 _ _ _ _ _)) rfl rfl) rfl ?_;rw[brace_error HM.out];refine⟨.inl rfl,⟨⟨0,[],[],[],false⟩,rfl⟩,?_⟩;exact(kw.trans (five_kept (D:=fun k=>w.heap.size≤k) (Kept.refl _ _) (.inl (Nat.le_refl _)) _ _ _ _ _) (fun _ h=> .inr h)).alloc _
  |ok b=>
    obtain⟨l,r⟩:=b
    by_cases hn:next r=125
    · go_enter Tryz.func147,Tryz.ntmps147
      go_wp2_with fail;refine HPA.out.mono ?_;rintro e w1 ⟨rfl,hs1,hgl⟩;obtain⟨T,hT⟩:∃T:ByteArray,txt (enc l)= .string T:=⟨_,rfl⟩;rw[show partV ⟨2,enc l,[],[],false⟩ zeroV= .agg #[.int .i64 2,.string T,.string ⟨#[]⟩,.slice none 0 0,.bool false] by rw[partV,hT];rfl];obtain⟨v1,kw⟩:=HBASE.out w1 hs1.2;have hlt:w.heap.size<w1.heap.size:=(gS.1 v1).1;have hr2:Rd (w1.alloc (VB T ⟨#[]⟩)) X G sz r:=hs1.1.below ((Below.refl _ w1).alloc (Nat.le_refl _) _);have HN:=yH (show _ from by have:=next_any hr2;rw[hn]at this;exact this);have HTK:=yH (takesM hr2 ⟨#[125]⟩ [125] rfl (by decide) (m:=some r.tail) (by rw[takes_one,if_pos ⟨hn,fun e=>by rw[e]at hn;cases hn⟩]));have HW:=yH (brace_close (f:=f) HM.out hn);have HV:=yH (And.intro v1 (And.intro kw (And.intro hs1 (And.intro hT hlt))));clear v1 kw hs1 hT hgl hr2 hn
      go_wp2_with (first
        |(go_at_call 72;refine HN.out.mono ?_;rintro e w2 ⟨rfl,rfl⟩;simp only[VB])
        |(go_at_call 99;refine HTK.out.mono ?_;rintro e w2 ⟨rfl,hs2⟩;simp only[Option.getD_some]at hs2;have HS2:=yH hs2;have v2:=hs2.2.heap ((Below.heap_alloc _ _ _ hlt).trans HV.out.1) (fun e=>by have:=HX.out.1;omega);have v3:=hs2.2.heap (heap_alloc_new w1 (VB T ⟨#[]⟩)) (fun e=>by have:=HX.out.1;omega);obtain⟨x0,x1,x2,x3,x4⟩:=five_cells v2;have g0:=five_free v2 0;have g1:=five_free v2 1;have g2:=five_free v2 2;have g3:=five_free v2 3;have g4:=five_free v2 4;obtain⟨d0,d1,d2,d3,d4⟩:=five_cells v3;have HY:=yH v2;clear v2 v3 hs2))
      (try simp only[Exit.inBlock,Exit.then])
      obtain⟨v1,kw,hs1,hT,hlt⟩:=HV.out;have hx:=HX.out;refine bodyPost_ret (ret_part rfl (five_put HY.out _ _ _ _ _) rfl rfl) rfl ?_;rw[HW.out];refine⟨zeroV,by rw[partV,hT];rfl,WordN.nil _ _,HS2.out.1.five (by omega) (by omega) _ _ _ _ _,?_⟩;exact((kw.on (Kept.of_below ((Below.refl _ w1).alloc (Nat.le_refl _) _))).on HS2.out.2).trans (five_kept (D:=fun k=>w.heap.size≤k) (Kept.refl _ _) (.inl (Nat.le_refl _)) _ _ _ _ _) (fun _ h=> .inr h)
    · obtain⟨mo,hmo⟩:∃mo,operationM f l r=mo:=⟨_,rfl⟩
      cases mo with
      |error cc=>
        go_enter Tryz.func147,Tryz.ntmps147;go_wp2_with fail;refine HPA.out.mono ?_;rintro e w1 ⟨rfl,hs1,hgl⟩;obtain⟨T,hT⟩:∃T:ByteArray,txt (enc l)= .string T:=⟨_,rfl⟩;rw[show partV ⟨2,enc l,[],[],false⟩ zeroV= .agg #[.int .i64 2,.string T,.string ⟨#[]⟩,.slice none 0 0,.bool false] by rw[partV,hT];rfl];obtain⟨v1,kw⟩:=HBASE.out w1 hs1.2;have hlt:w.heap.size<w1.heap.size:=(gS.1 v1).1;have hr2:Rd (w1.alloc (VB T ⟨#[]⟩)) X G sz r:=hs1.1.below ((Below.refl _ w1).alloc (Nat.le_refl _) _);have HN:=yH (next_any hr2);have hop:=operation_any HP.out (by have:=HD.out;omega) hr2 hgl T hT;rw[hmo]at hop;have HOP:=yH hop;have HV:=yH (And.intro v1 (And.intro kw (And.intro hs1 (And.intro hT hlt))));have HMO:=yH hmo;have HNN:=yH hn;obtain⟨y,hy⟩:∃y,next r=y:=⟨_,rfl⟩;rw[hy]at HN
        have hy1:((y:Int) !=125)=true:=by
          have:¬(y:Int)=125:=by omega
          simpa using this
        clear v1 kw hs1 hT hgl hr2 hn hop hmo hy
        go_wp2_with (go_at_call 72;refine HN.out.mono ?_;rintro e w2 ⟨rfl,rfl⟩;simp only[VB])
        refine HOP.out.mono ?_;rintro e w3 ⟨hcc,⟨p,rfl⟩,hk3⟩;obtain⟨T1,hT1⟩:∃T:ByteArray,txt p.text= .string T:=⟨_,rfl⟩;obtain⟨T2,hT2⟩:∃T:ByteArray,txt p.op= .string T:=⟨_,rfl⟩;rw[show partV p zeroV= .agg #[.int .i64 p.kind,.string T1,.string T2,.slice none 0 0,.bool p.q] by rw[partV,hT1,hT2];rfl];have hx:=HX.out;have v2:=hk3.heap ((Below.heap_alloc _ _ _ hlt).trans HV.out.1) (fun e=>by omega);have v3:=hk3.heap (heap_alloc_new w1 (VB T ⟨#[]⟩)) (fun e=>by omega);have H3:=yH (And.intro v3 (And.intro v2 (And.intro hcc hk3)))
        have hc0:(((cc:Nat):Int)==0)=false:=by rcases hcc with rfl|rfl<;>rfl
        have hc1:(((cc:Nat):Int) !=0)=true:=by rcases hcc with rfl|rfl<;>rfl
        clear v2 v3 hk3 hcc hx hT1 hT2
        go_wp2_with (refine wpList_store_mid (by rfl) 113 (.tmp 6) (.tmp 28) (by rfl) w1.heap.size 0 #[.int .i64 p.kind,.string T1,.string T2,.slice none 0 0,.bool p.q] (by rfl) (by rfl) (five_there H3.out.1) part_info (by simp[Value.oneCell']) ?_;obtain⟨w4,hw4⟩:∃w4,w4=w3.setCells w1.heap.size 0 (#[.int .i64 p.kind,.string T1,.string T2,.slice none 0 0,.bool p.q]:Array Value).toList:=⟨_,rfl⟩;rw[←hw4];obtain⟨y1,y2,y3⟩:=five_stored H3.out.1 hw4;have y4:=(y3 w.heap.size (by omega)).trans H3.out.2.1;obtain⟨x0,x1,x2,x3,x4⟩:=five_cells y4;have g0:=five_free y4 0;have g1:=five_free y4 1;have g2:=five_free y4 2;have g3:=five_free y4 3;have g4:=five_free y4 4;have HY:=yH (And.intro y1 (And.intro y2 y4));clear y1 y2 y3 y4 hw4)
        (try simp only[Exit.inBlock,Exit.then])
        obtain⟨y1,y2,y4⟩:=HY.out;obtain⟨v3,v2,hcc,hk3⟩:=H3.out;refine bodyPost_ret (ret_part rfl (five_put y4 _ _ _ _ _) rfl rfl) rfl ?_;rw[brace_oper HM.out HNN.out HMO.out];refine⟨hcc,⟨⟨0,[],[],[],false⟩,rfl⟩,?_⟩;exact(((HV.out.2.1.on (Kept.of_below ((Below.refl _ w1).alloc (Nat.le_refl _) _))).on hk3).trans y2 (fun i e=> .inr (by omega))).trans (five_kept (D:=fun k=>w.heap.size≤k) (Kept.refl _ _) (.inl (Nat.le_refl _)) _ _ _ _ _) (fun _ h=> .inr h)
      |ok bb=>
        obtain⟨p,r'⟩:=bb;obtain⟨mt,hmt⟩:∃mt,takes [125] r'=mt:=⟨_,rfl⟩
        cases mt
        all_goals
          go_enter Tryz.func147,Tryz.ntmps147;go_wp2_with fail;refine HPA.out.mono ?_;rintro e w1 ⟨rfl,hs1,hgl⟩;obtain⟨T,hT⟩:∃T:ByteArray,txt (enc l)= .string T:=⟨_,rfl⟩;rw[show partV ⟨2,enc l,[],[],false⟩ zeroV= .agg #[.int .i64 2,.string T,.string ⟨#[]⟩,.slice none 0 0,.bool false] by rw[partV,hT];rfl];obtain⟨v1,kw⟩:=HBASE.out w1 hs1.2;have hlt:w.heap.size<w1.heap.size:=(gS.1 v1).1;have hr2:Rd (w1.alloc (VB T ⟨#[]⟩)) X G sz r:=hs1.1.below ((Below.refl _ w1).alloc (Nat.le_refl _) _);have HN:=yH (next_any hr2);have hop:=operation_any HP.out (by have:=HD.out;omega) hr2 hgl T hT;rw[hmo]at hop;have HOP:=yH hop;have HV:=yH (And.intro v1 (And.intro kw (And.intro hs1 (And.intro hT hlt))));have HMO:=yH hmo;have HNN:=yH hn;obtain⟨y,hy⟩:∃y,next r=y:=⟨_,rfl⟩;rw[hy]at HN
          have hy1:((y:Int) !=125)=true:=by
            have:¬(y:Int)=125:=by omega
            simpa using this
          clear v1 kw hs1 hT hgl hr2 hn hop hmo hy
          go_wp2_with (go_at_call 72;refine HN.out.mono ?_;rintro e w2 ⟨rfl,rfl⟩;simp only[VB])
          refine HOP.out.mono ?_;rintro e w3 ⟨u,rfl,hwn,hr3,hk3⟩;obtain⟨T1,hT1⟩:∃T:ByteArray,txt p.text= .string T:=⟨_,rfl⟩;obtain⟨T2,hT2⟩:∃T:ByteArray,txt p.op= .string T:=⟨_,rfl⟩;obtain⟨ad,cp,hu⟩:=hwn.shape;obtain⟨np,hnp⟩:∃np,p.word.length=np:=⟨_,rfl⟩;rw[hnp]at hu;subst hu;rw[show partV p (.slice ad np cp)= .agg #[.int .i64 p.kind,.string T1,.string T2,.slice ad np cp,.bool p.q] by rw[partV,hT1,hT2]];have hx:=HX.out;have v2:=hk3.heap ((Below.heap_alloc _ _ _ hlt).trans HV.out.1) (fun e=>by omega);have v3:=hk3.heap (heap_alloc_new w1 (VB T ⟨#[]⟩)) (fun e=>by omega);have H3:=yH (And.intro v3 (And.intro v2 (And.intro hwn (And.intro hr3 hk3))));have HTT:=yH (And.intro hT1 hT2);have HMT:=yH hmt;clear v2 v3 hk3 hwn hr3 hx hT1 hT2 hnp hmt
          go_wp2_with (first
            |(refine wpList_store_mid (by rfl) 113 (.tmp 6) (.tmp 28) (by rfl) w1.heap.size 0 #[.int .i64 p.kind,.string T1,.string T2,.slice ad np cp,.bool p.q] (by rfl) (by rfl) (five_there H3.out.1) part_info (by simp[Value.oneCell']) ?_;obtain⟨w4,hw4⟩:∃w4,w4=w3.setCells w1.heap.size 0 (#[.int .i64 p.kind,.string T1,.string T2,.slice ad np cp,.bool p.q]:Array Value).toList:=⟨_,rfl⟩;rw[←hw4];obtain⟨y1,y2,y3⟩:=five_stored H3.out.1 hw4;have y4:=(y3 w.heap.size (by omega)).trans H3.out.2.1;have hr4:Rd w4 X G sz r':=H3.out.2.2.2.1.kept y2 (by have:=HX.out.1;omega) (by have:=HX.out.2;omega);have HY:=yH (And.intro y1 (And.intro y2 (And.intro y4 hr4)));have HTK:=yH (takesM hr4 ⟨#[125]⟩ [125] rfl (by decide) HMT.out);clear y1 y2 y3 y4 hw4 hr4)
            |(go_at_call 99;refine HTK.out.mono ?_;rintro e w5 ⟨rfl,hs5⟩;have HS5:=yH hs5;have z2:=hs5.2.heap HY.out.2.2.1 (fun e=>by have:=HX.out.1;omega);have z3:=hs5.2.heap HY.out.1 (fun e=>by have:=HX.out.1;omega);obtain⟨x0,x1,x2,x3,x4⟩:=five_cells z2;have g0:=five_free z2 0;have g1:=five_free z2 1;have g2:=five_free z2 2;have g3:=five_free z2 3;have g4:=five_free z2 4;obtain⟨d0,d1,d2,d3,d4⟩:=five_cells z3;have HZ:=yH z2;clear z2 z3 hs5))
          (try simp only[Exit.inBlock,Exit.then])
          obtain⟨y1,y2,y4,hr4⟩:=HY.out;obtain⟨v3,v2,hwn,hr3,hk3⟩:=H3.out;have hx:=HX.out;have hk5:=((((HV.out.2.1.on (Kept.of_below ((Below.refl _ w1).alloc (Nat.le_refl _) _))).on hk3).trans y2 (fun i e=> .inr (by omega))).on HS5.out.2);refine bodyPost_ret (ret_part rfl (five_put HZ.out _ _ _ _ _) rfl rfl) rfl ?_;rw[brace_end HM.out HNN.out HMO.out,HMT.out]
        · exact⟨.inl rfl,⟨⟨0,[],[],[],false⟩,rfl⟩,hk5.trans (five_kept (D:=fun k=>w.heap.size≤k) (Kept.refl _ _) (.inl (Nat.le_refl _)) _ _ _ _ _) (fun _ h=> .inr h)⟩
        · have hsz:(w1.alloc (VB T ⟨#[]⟩)).heap.size=w1.heap.size+1:=by simp
          rw[hsz]at hwn;have k1:=hwn.kept y2 (fun k hk e=>by omega);have k2:=k1.kept HS5.out.2 (fun k hk e=>by omega);have k3:=k2.kept (five_kept (D:=fun k=>k=w.heap.size) (Kept.refl _ w5) (.inl rfl) (.int .i64 p.kind) (.string T1) (.string T2) (.slice ad np cp) (.bool p.q)) (fun k hk e=>by omega);exact⟨.slice ad np cp,by rw[partV,HTT.out.1,HTT.out.2];rfl,k3.base (by omega),HS5.out.1.five (by omega) (by omega) _ _ _ _ _,hk5.trans (five_kept (D:=fun k=>w.heap.size≤k) (Kept.refl _ _) (.inl (Nat.le_refl _)) _ _ _ _ _) (fun _ h=> .inr h)⟩
def PB (p:Pt) (T O:ByteArray) (u:Value):Obj:= .cells #[.int .i64 p.kind,.string T,.string O,u,.bool p.q] 113
def partEnd (ps:List Pt) (q:Bool) (m:Res Pt):Res (List Pt):=
  match m with
  | .error e=> .error e
  | .ok (p,r)=> .ok (ps++ [{ p with q:=q }],r)
theorem dollar_brace {br:List Nat→Res Pt} {q:Bool} {xs r:List Nat} {ps:List Pt} (h:takes [123] xs.tail=some r):dollarM br q xs ps=partEnd ps q (br r):=by
  unfold dollarM partEnd;rw[h];simp only
  cases br r with
  |error e=>rfl
  |ok a=>rfl
def arithEnd (m:Res (List Nat)):Res Pt:=match m with| .error c=> .error c| .ok (l,r)=> .ok (⟨3,enc l,[],[],false⟩,r)
theorem dollar_arith {br:List Nat→Res Pt} {q:Bool} {xs r:List Nat} {ps:List Pt} (h:takes [123] xs.tail=none) (h2:takes [40,40] xs.tail=some r):dollarM br q xs ps=partEnd ps q (arithEnd (arithM r 0 [])):=by
  unfold dollarM partEnd arithEnd;rw[h];simp only;rw[h2];simp only
  cases arithM r 0 []with
  |error e=>rfl
  |ok a=>rfl
def nameEnd (m:Res (List Nat)):Res Pt:=match m with| .error c=> .error c| .ok (l,r)=> .ok (⟨2,enc l,[],[],false⟩,r)
theorem dollar_name {br:List Nat→Res Pt} {q:Bool} {xs:List Nat} {ps:List Pt} (h:takes [123] xs.tail=none) (h2:takes [40,40] xs.tail=none) (h3:(firstR (next xs.tail:Int)||other (next xs.tail))=true):dollarM br q xs ps=partEnd ps q (nameEnd (parameterM xs.tail)):=by
  unfold dollarM partEnd nameEnd;rw[h];simp only;rw[h2];simp only;rw[if_pos h3]
  cases parameterM xs.tail with
  |error e=>rfl
  |ok a=>rfl
theorem dollar_lit {br:List Nat→Res Pt} {q:Bool} {xs:List Nat} {ps:List Pt} (h:takes [123] xs.tail=none) (h2:takes [40,40] xs.tail=none) (h3:(firstR (next xs.tail:Int)||other (next xs.tail))=false):dollarM br q xs ps= .ok (lit ps [36] true,xs.tail):=by
  unfold dollarM;rw[h];simp only;rw[h2];simp only;rw[if_neg (by rw[h3];decide)]
structure Ahead (w0 w9:World) (X G sz B W V:Nat) (ps:List Pt) (p:Pt) (T O:ByteArray) (q:Bool) (u:Value) (r:List Nat) (v:Value) (vs:List Value) (F:Nat→Prop):Prop where
  row:RowO w9 B W v vs F ps
  rd:Rd w9 X G sz r
  var:w9.heap[V]? =some (PB { p with q:=q } T O u)
  txtT:txt p.text= .string T
  txtO:txt p.op= .string O
  word:WordN w9 (V+1) u p.word
  low:W<V∧∀g,v.ownBlock=some g→g<V
  hX:X<B∧G<B
  kept:Kept (fun k=>k=X∨B≤k) w0 w9
theorem ahead_of {w0 w1 w9:World} {X G sz B W:Nat} {ps:List Pt} {p:Pt} {T O:ByteArray} {q:Bool} {u:Value} {r:List Nat} {v:Value} {vs:List Value} {F:Nat→Prop} (ho:RowO w1 B W v vs F ps) (hX:X<B) (hG:G<B)
    (k0:Kept (fun k=>k=X∨B≤k) w0 w1) (k9:Kept (fun k=>k=X∨w1.heap.size≤k) w1 w9) (hr:Rd w9 X G sz r) (hw:WordN w9 (w1.heap.size+1) u p.word) (hv:w9.heap[w1.heap.size]? =some (PB { p with q:=q } T O u)) (hT:txt p.text= .string T) (hO:txt p.op= .string O):
    Ahead w0 w9 X G sz B W w1.heap.size ps p T O q u r v vs F:=
  ⟨ho.kept k9 (fun k hk hk2 e=>e.elim (fun e=>by omega) fun e=>by omega),hr,hv,hT,hO,hw,⟨ho.lt,fun g hg=>(World.ownsRow.lt ho.own g hg).2⟩,⟨hX,hG⟩,
    k0.trans k9 fun i hi=> .inl (hi.elim .inl fun e=> .inr (by have:=ho.base;have:=ho.lt;omega))⟩
theorem Ahead.sub {w0 w9:World} {X G sz B W V:Nat} {ps:List Pt} {p:Pt} {T O:ByteArray} {q:Bool} {u:Value} {r:List Nat} {v:Value} {vs:List Value} {F:Nat→Prop} (h:Ahead w0 w9 X G sz B W V ps p T O q u r v vs F):
    ∃F',WordV w9 F' u p.word∧∀g,F' g→B≤g∧g<w9.heap.size∧g≠W∧v.ownBlock≠some g:=by
  obtain⟨F',h1,h2⟩:=h.word;have hb:=h.row.base;exact⟨F',h1,fun g hg=>⟨by have:=(h2 g hg).1;have:=h.low.1;omega,(h2 g hg).2,fun e=>by have:=(h2 g hg).1;have:=h.low.1;omega,fun e=>by have:=h.low.2 g e;have:=(h2 g hg).1;omega⟩⟩
theorem Ahead.done {w0 w9 w2:World} {X G sz B W V:Nat} {ps qs:List Pt} {p:Pt} {T O:ByteArray} {q:Bool} {u:Value} {r:List Nat} {v:Value} {vs:List Value} {F:Nat→Prop} (h:Ahead w0 w9 X G sz B W V ps p T O q u r v vs F)
    (hr:RowAt w2 B W qs∧Kept (fun k=>B≤k) w9 w2):Rd w2 X G sz r∧RowAt w2 B W qs∧Kept (fun k=>k=X∨B≤k) w0 w2:=
  ⟨h.rd.kept hr.2 (by have:=h.hX.1;omega) (by have:=h.hX.2;omega),hr.1,h.kept.on hr.2.wideB⟩
theorem parEnd_part {w w':World} {e:Ending} {X G sz:Nat} {m:Res (List Nat)} (h:ParEnd w w' e X G sz m):PartEnd w w' e X G sz (nameEnd m):=by
  cases m with
  |error c=>
    obtain⟨h1,h2,h3⟩:=h;subst h1;exact⟨.inl rfl,⟨_,h2⟩,h3⟩
  |ok a=>
    obtain⟨l,r⟩:=a;obtain⟨h1,h2,_⟩:=h;exact⟨zeroV,h1,WordN.nil _ _,h2.1,h2.2⟩
theorem arithT {w:World} {X G sz:Nat} {xs:List Nat} (h:Rd w X G sz xs):
    Calls Tryz.prog 148 #[.pointer (some ⟨X,0,none⟩)] w fun e w'=>PartEnd w w' e X G sz (arithEnd (arithM xs 0 [])):=arith_any h
def DollarDo (depth:Nat) (br:List Nat→Res Pt):Prop:=
  ∀(w:World) (X G sz B W:Nat) (xs:List Nat) (ps:List Pt),RowIn w X G sz B W xs ps→Fits xs ps→∀q:Bool,
    Calls Tryz.prog 125 #[.pointer (some ⟨X,0,none⟩),.pointer (some ⟨W,0,none⟩),.int .i64 (depth:Int),.bool q] w fun e w'=>RowEnd w w' e X G sz B W (dollarM br q xs ps)
theorem neq_of {r k:Nat} (h:r≠k):((r:Int)==(k:Int))=false:=by
  have:¬(r:Int)=(k:Int):=by omega
  simpa using this
set_option maxHeartbeats 1000000 in
theorem within_any {depth:Nat} {br:List Nat→Res Pt} (hD:DollarDo depth br) {w:World} {X G sz B W:Nat} {xs:List Nat} {ps:List Pt} (h:RowIn w X G sz B W xs ps) (hf:Fits xs ps):
    Calls Tryz.prog 146 #[.pointer (some ⟨X,0,none⟩),.pointer (some ⟨W,0,none⟩),.int .i64 (depth:Int)] w fun e w'=>RowEnd w w' e X G sz B W (withinM br xs ps):=by
  have HN:=yH (next_any h.rd)
  by_cases h0:next xs=0
  · have HM:=yH (show withinM br xs ps= .error 2 by unfold withinM;rw[if_pos h0])
    rw[h0]at HN;clear h hf h0 hD;go_enter Tryz.func146,Tryz.ntmps146
    go_wp2_with (go_at_call 72;refine HN.out.mono ?_;rintro e w1 ⟨rfl,rfl⟩)
    go_ret;rw[HM.out];exact⟨.inl rfl,rfl,Kept.refl _ _⟩
  · by_cases h1:next xs=92
    · have HE:=yH (show _ from by have:=escapedWithin_any h hf;rw[show escapedWithinM xs ps=withinM br xs ps by unfold withinM;rw[if_neg h0,if_pos h1]]at this;exact this)
      rw[h1]at HN;clear h hf h0 h1 hD;obtain⟨M,hM⟩:∃M,withinM br xs ps=M:=⟨_,rfl⟩;rw[hM]at HE ⊢;clear hM;go_enter Tryz.func146,Tryz.ntmps146
      go_wp2_with (go_at_call 72;refine HN.out.mono ?_;rintro e w1 ⟨rfl,rfl⟩)
      refine HE.out.mono ?_;intro e w2 hE
      cases M with
      |error cc=>
        obtain⟨hcc,rfl,hk⟩:=hE;have HR:=yH (And.intro hcc hk);clear hcc hk;go_wp2_with fail;go_ret;exact⟨HR.out.1,rfl,HR.out.2⟩
      |ok a=>
        obtain⟨qs,r⟩:=a;obtain⟨rfl,hr⟩:=hE;have HR:=yH hr;clear hr;go_wp2_with fail;go_ret;exact⟨rfl,HR.out⟩
    · by_cases h2:next xs=36
      · have HE:=yH (show _ from by have:=hD w X G sz B W xs ps h hf true;rw[show dollarM br true xs ps=withinM br xs ps by unfold withinM;rw[if_neg h0,if_neg h1,if_pos h2]]at this;exact this)
        rw[h2]at HN;clear h hf h0 h1 h2 hD;obtain⟨M,hM⟩:∃M,withinM br xs ps=M:=⟨_,rfl⟩;rw[hM]at HE ⊢;clear hM;go_enter Tryz.func146,Tryz.ntmps146
        go_wp2_with (go_at_call 72;refine HN.out.mono ?_;rintro e w1 ⟨rfl,rfl⟩)
        refine HE.out.mono ?_;intro e w2 hE
        cases M with
        |error cc=>
          obtain⟨hcc,rfl,hk⟩:=hE;have HR:=yH (And.intro hcc hk);clear hcc hk;go_wp2_with fail;go_ret;exact⟨HR.out.1,rfl,HR.out.2⟩
        |ok a=>
          obtain⟨qs,r⟩:=a;obtain⟨rfl,hr⟩:=hE;have HR:=yH hr;clear hr;go_wp2_with fail;go_ret;exact⟨rfl,HR.out⟩
      · have HM:=yH (show withinM br xs ps= .ok (lit ps (enc (got acts xs)) true,left acts xs) by unfold withinM;rw[if_neg h0,if_neg h1,if_neg h2])
        have HTL:=yH (till_any stops_acts h.rd (fun _ _=>trivial));have HL:=yH (show(enc (got acts xs)).length≤16000 from enc_short (xs:=xs) (by have:=got_length acts xs;omega) h.rd.few);have HI:=yH h;have HF:=yH hf;obtain⟨y,hy⟩:∃y,next xs=y:=⟨_,rfl⟩;rw[hy]at HN h0 h1 h2;have y0:=neq_of h0;have y1:=neq_of h1;have y2:=neq_of h2;clear h hf h0 h1 h2 hD hy;go_enter Tryz.func146,Tryz.ntmps146
        go_wp2_with (first
          |(go_at_call 72;refine HN.out.mono ?_;rintro e w1 ⟨rfl,rfl⟩)
          |(go_at_call 70;refine HTL.out.mono ?_;rintro e w2 ⟨rfl,hs2⟩;have HS2:=yH hs2;clear hs2;have HP:=yH (lit_any (HI.out.step HS2.out).row HF.out (enc (got acts xs)) HL.out true))
          |(go_at_call 126;refine HP.out.mono ?_;rintro e w3 ⟨rfl,hr3,hk3⟩;have HR3:=yH (And.intro hr3 hk3);clear hr3 hk3))
        go_ret;rw[HM.out];exact⟨rfl,((HI.out.step HS2.out).put HR3.out.1 HR3.out.2).rd,HR3.out.1,HS2.out.2.wide.on HR3.out.2.wideB⟩
theorem takes34 {ys:List Nat} (h:takes [34] ys=none):next ys≠34:=fun e=>by
  rw[takes_one,if_pos ⟨e,fun e'=>by rw[e']at e;cases e⟩]at h
  cases h
structure DbAt (w wr:World) (X G sz B W:Nat) (br:List Nat→Res Pt) (M:Res (List Pt)) (f:Nat) (ys:List Nat) (qs:List Pt):Prop where
  inn:RowIn wr X G sz B W ys qs
  fits:Fits ys qs
  kept:Kept (fun k=>k=X∨B≤k) w wr
  said:doubleL br f ys qs=M
  fuel:ys.length<f
set_option maxHeartbeats 1000000 in
theorem double_any {depth:Nat} {br:List Nat→Res Pt} (hb:BraceOk br) (hD:DollarDo depth br) {w:World} {X G sz B W:Nat} {xs:List Nat} {ps:List Pt} (h:RowIn w X G sz B W xs ps) (hf:Fits xs ps) (hx:xs≠ []):
    Calls Tryz.prog 124 #[.pointer (some ⟨X,0,none⟩),.pointer (some ⟨W,0,none⟩),.int .i64 (depth:Int)] w fun e w'=>RowEnd w w' e X G sz B W (doubleM br xs ps):=by
  have HT:=yH (take_any h.rd);have HI:=yH h;have HF:=yH hf;have HB:=yH hb;have HD:=yH hD;have htl:=(tail_less hx).2;have HTL:=yH htl;obtain⟨M,hM⟩:∃M,doubleM br xs ps=M:=⟨_,rfl⟩;rw[hM];have HM:=yH hM;obtain⟨y,hy⟩:∃y,next xs.tail=y:=⟨_,rfl⟩;have HY:=yH hy;clear h hf hb hD hx htl hM hy
  by_cases h34:y=34
  · subst h34
    have HF2:=yH (HF.out.lit [] true (show xs.tail.length+1≤xs.length from HTL.out) (by have:=HTL.out;simp only[List.length_nil];omega));go_enter Tryz.func124,Tryz.ntmps124
    go_wp2_with (first
      |(go_at_call 97;refine HT.out.mono ?_;rintro e w1 ⟨rfl,hs1⟩;have HS1:=yH hs1;clear hs1)
      |(go_at_call 72;refine(next_any HS1.out.1).mono ?_;rintro e w2 ⟨rfl,rfl⟩;rw[HY.out])
      |(go_at_call 126;refine(lit_any (HI.out.step HS1.out).row HF.out [] (by decide) true).mono ?_;rintro e w3 ⟨rfl,hr3,hk3⟩;have HA:=yH (show DbAt w w3 X G sz B W br M (xs.length+1) xs.tail (lit ps [] true)from ⟨(HI.out.step HS1.out).put hr3 hk3,HF2.out,HS1.out.2.wide.on hk3.wideB,by rw[←HM.out];unfold doubleM;rw[HY.out,if_pos rfl],by have:=HTL.out;omega⟩);clear hr3 hk3))
    go_loopw [] (fun wr=> ∃f ys qs,DbAt w wr X G sz B W br M f ys qs) (fun wr=>lenAt wr X)
    case atStart=>exact⟨_,_,_,HA.out⟩
    case round=>
      obtain⟨f,ys,qs,hA⟩:=hrel;have HR:=yH hA;obtain⟨f,rfl⟩:∃g,f=g+1:=⟨f-1,by have:=hA.fuel;omega⟩;clear hA;obtain⟨mt,hmt⟩:∃mt,takes [34] ys=mt:=⟨_,rfl⟩;have HMT:=yH hmt;clear hmt
      cases mt with
      |some r=>
        go_wp2_with (go_at_call 99;refine(takesM HR.out.inn.rd ⟨#[34]⟩ [34] rfl (by decide) HMT.out).mono ?_;rintro e w4 ⟨rfl,hs4⟩;simp only[Option.getD_some]at hs4;have HS4:=yH hs4;clear hs4)
        go_ret;rw[←HR.out.said,doubleL,HMT.out];have hi:=HR.out.inn.step HS4.out;exact⟨rfl,hi.rd,hi.row,HR.out.kept.on HS4.out.2.wide⟩
      |none=>
        obtain⟨mw,hmw⟩:∃mw,withinM br ys qs=mw:=⟨_,rfl⟩;have HMW:=yH hmw;clear hmw
        cases mw with
        |error cc=>
          go_wp2_with (go_at_call 99;refine(takesM HR.out.inn.rd ⟨#[34]⟩ [34] rfl (by decide) HMT.out).mono ?_;rintro e w4 ⟨rfl,hs4⟩;simp only[Option.getD_none]at hs4;have HS4:=yH hs4;clear hs4)
          have hw:=within_any HD.out (HR.out.inn.step HS4.out) HR.out.fits;rw[HMW.out]at hw;refine hw.mono ?_;rintro e w5 ⟨hcc,rfl,hk5⟩;have H5:=yH (And.intro hcc hk5)
          have hc0:(((cc:Nat):Int) !=0)=true:=by rcases hcc with rfl|rfl<;>rfl
          clear hcc hk5 hw;go_wp2_with fail;go_ret;rw[←HR.out.said,doubleL,HMT.out];simp only;rw[HMW.out];exact⟨H5.out.1,rfl,(HR.out.kept.on HS4.out.2.wide).on H5.out.2⟩
        |ok a=>
          obtain⟨qs',ys'⟩:=a
          go_wp2_with (go_at_call 99;refine(takesM HR.out.inn.rd ⟨#[34]⟩ [34] rfl (by decide) HMT.out).mono ?_;rintro e w4 ⟨rfl,hs4⟩;simp only[Option.getD_none]at hs4;have HS4:=yH hs4;clear hs4)
          have hw:=within_any HD.out (HR.out.inn.step HS4.out) HR.out.fits;rw[HMW.out]at hw;refine hw.mono ?_;rintro e w5 ⟨rfl,hr5,hro5,hk5⟩;have H5:=yH (And.intro hr5 (And.intro hro5 hk5));clear hw hr5 hro5 hk5;go_wp2_with fail;obtain⟨l1,l2⟩:=within_less HB.out HMW.out (takes34 HMT.out)
          go_roundw
          case rel=>
            have hd:DbAt w w5 X G sz B W br M f ys' qs':=⟨⟨H5.out.1,H5.out.2.1,HR.out.inn.hX,HR.out.inn.hG⟩,l2 HR.out.fits,(HR.out.kept.on HS4.out.2.wide).on H5.out.2.2,by
              rw[←HR.out.said,doubleL,HMT.out];simp only
              rw[HMW.out],by have:=HR.out.fuel;have:=l1.2;omega⟩
            exact⟨f,ys',qs',hd⟩
          case measure=>
            have e1:=H5.out.1.lenAt;have e2:=HR.out.inn.rd.lenAt;have:=l1.2;simp only[e1,e2];omega
  · have y1:((y:Int)==34)=false:=neq_of h34
    have HF2:=yH (HF.out.mono (show xs.tail.length≤xs.length by have:=HTL.out;omega));have HN34:=yH h34;clear h34;go_enter Tryz.func124,Tryz.ntmps124
    go_wp2_with (first
      |(go_at_call 97;refine HT.out.mono ?_;rintro e w3 ⟨rfl,hs1⟩;have HS1:=yH hs1;clear hs1;have HA:=yH (show DbAt w w3 X G sz B W br M (xs.length+1) xs.tail ps from⟨HI.out.step HS1.out,HF2.out,HS1.out.2.wide,by rw[←HM.out];unfold doubleM;rw[HY.out,if_neg HN34.out],by have:=HTL.out;omega⟩))
      |(go_at_call 72;refine(next_any HS1.out.1).mono ?_;rintro e w2 ⟨rfl,rfl⟩;rw[HY.out]))
    go_loopw [] (fun wr=> ∃f ys qs,DbAt w wr X G sz B W br M f ys qs) (fun wr=>lenAt wr X)
    case atStart=>exact⟨_,_,_,HA.out⟩
    case round=>
      obtain⟨f,ys,qs,hA⟩:=hrel;have HR:=yH hA;obtain⟨f,rfl⟩:∃g,f=g+1:=⟨f-1,by have:=hA.fuel;omega⟩;clear hA;obtain⟨mt,hmt⟩:∃mt,takes [34] ys=mt:=⟨_,rfl⟩;have HMT:=yH hmt;clear hmt
      cases mt with
      |some r=>
        go_wp2_with (go_at_call 99;refine(takesM HR.out.inn.rd ⟨#[34]⟩ [34] rfl (by decide) HMT.out).mono ?_;rintro e w4 ⟨rfl,hs4⟩;simp only[Option.getD_some]at hs4;have HS4:=yH hs4;clear hs4)
        go_ret;rw[←HR.out.said,doubleL,HMT.out];have hi:=HR.out.inn.step HS4.out;exact⟨rfl,hi.rd,hi.row,HR.out.kept.on HS4.out.2.wide⟩
      |none=>
        obtain⟨mw,hmw⟩:∃mw,withinM br ys qs=mw:=⟨_,rfl⟩;have HMW:=yH hmw;clear hmw
        cases mw with
        |error cc=>
          go_wp2_with (go_at_call 99;refine(takesM HR.out.inn.rd ⟨#[34]⟩ [34] rfl (by decide) HMT.out).mono ?_;rintro e w4 ⟨rfl,hs4⟩;simp only[Option.getD_none]at hs4;have HS4:=yH hs4;clear hs4)
          have hw:=within_any HD.out (HR.out.inn.step HS4.out) HR.out.fits;rw[HMW.out]at hw;refine hw.mono ?_;rintro e w5 ⟨hcc,rfl,hk5⟩;have H5:=yH (And.intro hcc hk5)
          have hc0:(((cc:Nat):Int) !=0)=true:=by rcases hcc with rfl|rfl<;>rfl
          clear hcc hk5 hw;go_wp2_with fail;go_ret;rw[←HR.out.said,doubleL,HMT.out];simp only;rw[HMW.out];exact⟨H5.out.1,rfl,(HR.out.kept.on HS4.out.2.wide).on H5.out.2⟩
        |ok a=>
          obtain⟨qs',ys'⟩:=a
          go_wp2_with (go_at_call 99;refine(takesM HR.out.inn.rd ⟨#[34]⟩ [34] rfl (by decide) HMT.out).mono ?_;rintro e w4 ⟨rfl,hs4⟩;simp only[Option.getD_none]at hs4;have HS4:=yH hs4;clear hs4)
          have hw:=within_any HD.out (HR.out.inn.step HS4.out) HR.out.fits;rw[HMW.out]at hw;refine hw.mono ?_;rintro e w5 ⟨rfl,hr5,hro5,hk5⟩;have H5:=yH (And.intro hr5 (And.intro hro5 hk5));clear hw hr5 hro5 hk5;go_wp2_with fail;obtain⟨l1,l2⟩:=within_less HB.out HMW.out (takes34 HMT.out)
          go_roundw
          case rel=>
            have hd:DbAt w w5 X G sz B W br M f ys' qs':=⟨⟨H5.out.1,H5.out.2.1,HR.out.inn.hX,HR.out.inn.hG⟩,l2 HR.out.fits,(HR.out.kept.on HS4.out.2.wide).on H5.out.2.2,by
              rw[←HR.out.said,doubleL,HMT.out];simp only
              rw[HMW.out],by have:=HR.out.fuel;have:=l1.2;omega⟩
            exact⟨f,ys',qs',hd⟩
          case measure=>
            have e1:=H5.out.1.lenAt;have e2:=HR.out.inn.rd.lenAt;have:=l1.2;simp only[e1,e2];omega
end Go.Proofs.YtakceggnadagmaaGreatDoor
