/-
  Proved: contracts of functions, plain facts. Conditions: as each says.
-/
import Derived.Test.YtakceggnadagmaaGreatDoorPq11
import Derived.Test.YtakceggnadagmaaGreatDoorPq01
import Derived.Laws.ResultCell
namespace Go.Proofs.YtakceggnadagmaaGreatDoor
open Go Go.RowKit GlyphMath LexMath
theorem int_eq (r k:Nat):((r:Int)==(k:Int))=(r==k):=by
  apply Bool.eq_iff_iff.2;rw[beq_iff_eq,beq_iff_eq];omega
theorem stops_quote:Stops 145 #[] (fun r=>r==39) (fun _=>True) where
  enter:=enters_of Tryz.func145 (by kernel_rfl) rfl
  call:=fun r W _ _=>by
    have HR:=yH (int_eq r 39);show Calls Tryz.prog 145 #[.int .i32 (r:Int)] W _;go_enter Tryz.func145,Tryz.ntmps145;go_wp2_with fail;go_ret;exact⟨ret_bool HR.out,Below.refl _ _⟩
theorem stops_lf:Stops 73 #[] (fun r=>r==10) (fun _=>True) where
  enter:=enters_of Tryz.func73 (by kernel_rfl) rfl
  call:=fun r W _ _=>by
    have HR:=yH (int_eq r 10);show Calls Tryz.prog 73 #[.int .i32 (r:Int)] W _;go_enter Tryz.func73,Tryz.ntmps73;go_wp2_with fail;go_ret;exact⟨ret_bool HR.out,Below.refl _ _⟩
theorem stops_blank:Stops 71 #[] (fun r=>r !=32&&r !=9) (fun _=>True) where
  enter:=enters_of Tryz.func71 (by kernel_rfl) rfl
  call:=fun r W _ _=>by
    show Calls Tryz.prog 71 #[.int .i32 (r:Int)] W _
    by_cases h1:r=32
    · subst h1
      go_enter Tryz.func71,Tryz.ntmps71;go_wp2_with fail;go_ret;exact⟨rfl,Below.refl _ _⟩
    · have e1:((r:Int) !=32)=true:=by
        have:¬(r:Int)=32:=by omega
        simpa using this
      have HR:=yH (show((r:Int) !=9)=(r !=32&&r !=9) by
        have h2:=int_eq r 9;have h3:(r !=32)=true:=(by simpa using h1);rw[h3,Bool.true_and];show(!((r:Int)==9))= !(r==9)
        rw[←h2];rfl)
      clear h1;go_enter Tryz.func71,Tryz.ntmps71;go_wp2_with fail;go_ret;exact⟨ret_bool HR.out,Below.refl _ _⟩
theorem stops_name:Stops 176 #[] (fun r=> !moreR r) (fun _=>True) where
  enter:=enters_of Tryz.func176 (by kernel_rfl) rfl
  call:=fun r W _ _=>by
    show Calls Tryz.prog 176 #[.int .i32 (r:Int)] W _;go_enter Tryz.func176,Tryz.ntmps176
    go_wp2_with (go_at_call 177;refine(more_any _ _).mono ?_;rintro e w1 ⟨rfl,rfl⟩)
    go_ret;exact⟨rfl,Below.refl _ _⟩
theorem stops_acts:Stops 152 #[] acts (fun _=>True) where
  enter:=enters_of Tryz.func152 (by kernel_rfl) rfl
  call:=fun r W hr _=>acts_any r hr W
theorem stops_part (D n:Nat):Stops 127 #[.pointer (some ⟨D,0,none⟩)] (fun r=>begins r||ends r (decide (0<n))) (fun W=>W.cell? ⟨D,0,none⟩=some (.int .i64 (n:Int))) where
  enter:=enters_of Tryz.func127 (by kernel_rfl) rfl
  call:=fun r W hr hW=>by
    show Calls Tryz.prog 127 #[.int .i32 (r:Int),.pointer (some ⟨D,0,none⟩)] W _;have HB:=yH (begins_any r hr W);obtain⟨b,hb⟩:∃b,begins r=b:=⟨_,rfl⟩;have HR:=yH hr;rw[hb]at HB;rw[hb];clear hr hb
    cases b
    all_goals
      go_enter Tryz.func127,Tryz.ntmps127
      go_wp2_with (first
        |(go_at_call 128;refine HB.out.mono ?_;rintro e w1 ⟨rfl,hb1⟩;have HB1:=yH hb1;have hc1:=(hb1.cell (World.block_lt_of_cell? W _ hW)).trans hW;have HE:=yH (ends_any r n HR.out w1);clear hb1)
        |(go_at_call 100;refine HE.out.mono ?_;rintro e w2 ⟨rfl,hb2⟩;have HB2:=yH hb2;clear hb2))
      go_ret
    · exact⟨by simp,HB1.out.trans (HB2.out.mono HB1.out.size)⟩
    · exact⟨by simp,HB1.out⟩
theorem lit_any {w:World} {B W:Nat} {xs:List Nat} {ps:List Pt} (h:RowAt w B W ps) (hf:Fits xs ps) (t:List UInt8) (ht:t.length≤16000) (q:Bool):
    Calls Tryz.prog 126 #[.pointer (some ⟨W,0,none⟩),txt t,.bool q] w fun e w'=>e= .returned (.tuple #[])∧RowAt w' B W (lit ps t q)∧Kept (fun k=>B≤k) w w':=by
  have hB:=h.lt;have hn:=hf.1
  rcases List.eq_nil_or_concat ps with rfl|⟨r,p,rfl⟩
  · exact lit_first h t q (by omega)
  · rw[List.concat_eq_append]at h hf hn ⊢
    simp only[List.length_append,List.length_singleton]at hn;have hp:=hf.2 p (by simp);rw[lit_last]
    by_cases hc:p.kind=1∧p.q=q
    · rw[if_pos hc]
      obtain⟨h1,rfl⟩:=hc;exact lit_join h t h1 (by omega) (by omega)
    · rw[if_neg hc]
      exact lit_more h t q hc (by omega) (by omega)
def RowEnd (w w':World) (e:Ending) (X G sz B W:Nat) (m:Res (List Pt)):Prop:=
  match m with
  | .ok (ps,xs)=>e= .returned (.int .i64 0)∧Rd w' X G sz xs∧RowAt w' B W ps∧Kept (fun k=>k=X∨B≤k) w w'
  | .error c=>(c=2∨c=3)∧e= .returned (.int .i64 (c:Int))∧Kept (fun k=>k=X∨B≤k) w w'
structure RowIn (w:World) (X G sz B W:Nat) (xs:List Nat) (ps:List Pt):Prop where
  rd:Rd w X G sz xs
  row:RowAt w B W ps
  hX:X<B
  hG:G<B
theorem RowIn.step {w w':World} {X G sz B W:Nat} {xs ys:List Nat} {ps:List Pt} (h:RowIn w X G sz B W xs ps) (k:RStep w w' X G sz ys):RowIn w' X G sz B W ys ps:=
  ⟨k.1,h.row.kept k.2 fun i hi _ e=>by have:=h.hX;omega,h.hX,h.hG⟩
theorem RowIn.below {w w':World} {X G sz B W:Nat} {xs:List Nat} {ps:List Pt} (h:RowIn w X G sz B W xs ps) (k:Below w.heap.size w w'):RowIn w' X G sz B W xs ps:=
  ⟨h.rd.below k,h.row.kept (D:=fun _=>False) (Kept.of_below k) fun _ _ _ h=>h,h.hX,h.hG⟩
theorem RowIn.put {w w':World} {X G sz B W:Nat} {xs:List Nat} {ps qs:List Pt} (h:RowIn w X G sz B W xs ps) (hr:RowAt w' B W qs) (k:Kept (fun k=>B≤k) w w'):RowIn w' X G sz B W xs qs:=
  ⟨h.rd.kept k (by have:=h.hX;omega) (by have:=h.hG;omega),hr,h.hX,h.hG⟩
theorem Kept.wide {X B:Nat} {w w':World} (h:Kept (fun k=>k=X) w w'):Kept (fun k=>k=X∨B≤k) w w':=h.mono fun _ _ h=> .inl h
theorem Kept.wideB {X B:Nat} {w w':World} (h:Kept (fun k=>B≤k) w w'):Kept (fun k=>k=X∨B≤k) w w':=h.mono fun _ _ h=> .inr h
theorem next_nil:next []=0:=rfl
theorem next_cons (c:Nat) (r:List Nat):next (c::r)=c:=rfl
set_option maxHeartbeats 1000000 in
theorem escaped_any {w:World} {X G sz B W:Nat} {xs:List Nat} {ps:List Pt} (h:RowIn w X G sz B W xs ps) (hf:Fits xs ps):
    Calls Tryz.prog 122 #[.pointer (some ⟨X,0,none⟩),.pointer (some ⟨W,0,none⟩)] w fun e w'=>RowEnd w w' e X G sz B W (escapedM xs ps):=by
  have HT:=yH (take_any h.rd);have HI:=yH h;have HF:=yH hf
  cases ht:xs.tail with
  |nil=>
    have HM:=yH (show escapedM xs ps= .error 2 by unfold escapedM;rw[ht]);have HTL:=yH ht;clear h hf ht;go_enter Tryz.func122,Tryz.ntmps122
    go_wp2_with (first
      |(go_at_call 97;refine HT.out.mono ?_;rintro e w1 ⟨rfl,hs1⟩;have HS1:=yH hs1;clear hs1;have HN:=yH (next_any HS1.out.1))
      |(go_at_call 72;refine HN.out.mono ?_;rintro e w2 ⟨rfl,rfl⟩;rw[HTL.out,next_nil]))
    go_ret;rw[HM.out];exact⟨.inl rfl,rfl,HS1.out.2.wide⟩
  |cons c r=>
    have hg:GoodL c:=h.rd.good c (List.mem_of_mem_tail (by rw[ht];simp))
    have hx:((c:Int)==0)=false:=by
      have:=hg.1;have:¬(c:Int)=0:=(by omega)
      simpa using this
    have HM:=yH (show escapedM xs ps= .ok (lit ps (enc [c]) true,r) by unfold escapedM;rw[ht]);have HTL:=yH ht;have HG:=yH (encode_good hg);have HL:=yH (show(enc [c]).length≤16000 by have:=(enc_length [c]).2;simp only[List.length_singleton]at this;omega);clear h hf ht hg;go_enter Tryz.func122,Tryz.ntmps122;go_wp2_with fail;refine HT.out.mono ?_;rintro e w1 ⟨rfl,hs1⟩;rw[HTL.out]at hs1;have HS1:=yH hs1;have HN:=yH (next_any hs1.1);have HT2:=yH (take_any hs1.1);clear hs1
    go_wp2_with (first
      |(go_at_call 72;refine HN.out.mono ?_;rintro e w2 ⟨rfl,rfl⟩;rw[next_cons])
      |(go_at_call 97;refine HT2.out.mono ?_;rintro e w2 ⟨rfl,hs2⟩;rw[List.tail_cons]at hs2;rw[next_cons];have HS2:=yH hs2;clear hs2;have HP:=yH (lit_any (HI.out.step (HS1.out.trans HS2.out)).row HF.out (enc [c]) HL.out true))
      |(rw[HG.out];go_at_call 126;refine HP.out.mono ?_;rintro e w3 ⟨rfl,hr3,hk3⟩;have HR3:=yH (And.intro hr3 hk3);clear hr3 hk3))
    go_ret;rw[HM.out];have h2:=HI.out.step (HS1.out.trans HS2.out);exact⟨rfl,(h2.put HR3.out.1 HR3.out.2).rd,HR3.out.1,(HS1.out.trans HS2.out).2.wide.on HR3.out.2.wideB⟩
def orForm {α:Type} (m:Option (List Nat)) (x:α):Res α:=
  match m with
  |none=> .error 2
  |some r=> .ok (x,r)
theorem takes39 {w:World} {X G sz:Nat} {xs:List Nat} (h:Rd w X G sz xs):
    Calls Tryz.prog 99 #[.pointer (some ⟨X,0,none⟩),.string ⟨#[39]⟩] w fun e w'=>e= .returned (.bool (takes [39] xs).isSome)∧RStep w w' X G sz ((takes [39] xs).getD xs):=takes_any ⟨#[39]⟩ [39] rfl (by decide) h
theorem enc_short {l xs:List Nat} (h:l.length≤xs.length) (hx:xs.length≤2000):(enc l).length≤16000:=by have:=(enc_length l).2;omega
set_option maxHeartbeats 1000000 in
theorem single_any {w:World} {X G sz B W:Nat} {xs:List Nat} {ps:List Pt} (h:RowIn w X G sz B W xs ps) (hf:Fits xs ps):
    Calls Tryz.prog 123 #[.pointer (some ⟨X,0,none⟩),.pointer (some ⟨W,0,none⟩)] w fun e w'=>RowEnd w w' e X G sz B W (singleM xs ps):=by
  have HT:=yH (take_any h.rd);have HI:=yH h;have HF:=yH hf;obtain⟨g,hg⟩:∃g,got (fun r=>r==39) xs.tail=g:=⟨_,rfl⟩;obtain⟨l,hl⟩:∃l,left (fun r=>r==39) xs.tail=l:=⟨_,rfl⟩
  have hlen:g.length≤xs.length:=by
    have:=got_length (fun r=>r==39) xs.tail;rw[hg,hl]at this;have:=(Suf.tail xs).len;omega
  have HL:=yH (enc_short hlen h.rd.few);obtain⟨m,hm⟩:∃m,takes [39] l=m:=⟨_,rfl⟩;have HM:=yH (show singleM xs ps=orForm m (lit ps (enc g) true) by rw[←hm,←hl,←hg];rfl);have HGL:=yH (And.intro hg (And.intro hl hm));clear h hf hlen hg hl hm
  cases m
  all_goals
    go_enter Tryz.func123,Tryz.ntmps123
    go_wp2_with (first
      |(go_at_call 97;refine HT.out.mono ?_;rintro e w1 ⟨rfl,hs1⟩;have HS1:=yH hs1;clear hs1;have HTT:=yH (till_any stops_quote HS1.out.1 (fun _ _=>trivial)))
      |(go_at_call 70;refine HTT.out.mono ?_;rintro e w2 ⟨rfl,hs2⟩;rw[HGL.out.2.1]at hs2;rw[HGL.out.1];have HS2:=yH hs2;clear hs2;have HP:=yH (lit_any (HI.out.step (HS1.out.trans HS2.out)).row HF.out (enc g) HL.out true))
      |(go_at_call 126;refine HP.out.mono ?_;rintro e w3 ⟨rfl,hr3,hk3⟩;have HR3:=yH (And.intro hr3 hk3);clear hr3 hk3;have HQ:=yH (takes39 ((HI.out.step (HS1.out.trans HS2.out)).put HR3.out.1 HR3.out.2).rd))
      |(go_at_call 99;refine HQ.out.mono ?_;rw[HGL.out.2.2];rintro e w4 ⟨rfl,hs4⟩;have HS4:=yH hs4;clear hs4))
    go_ret;rw[HM.out]
  · exact⟨.inl rfl,rfl,((HS1.out.trans HS2.out).2.wide.on HR3.out.2.wideB).on HS4.out.2.wide⟩
  · have h4:=((HI.out.step (HS1.out.trans HS2.out)).put HR3.out.1 HR3.out.2).step HS4.out
    exact⟨rfl,h4.rd,h4.row,((HS1.out.trans HS2.out).2.wide.on HR3.out.2.wideB).on HS4.out.2.wide⟩
theorem fits_lit92 {xs r:List Nat} {c:Nat} {ps:List Pt} (h:Fits xs ps) (ht:xs.tail=c::r):Fits (c::r) (lit ps [92] true):=by
  have hx:xs≠ []:=fun e=>(by rw[e]at ht;cases ht);have h1:=(tail_less hx).2;rw[ht]at h1;exact h.lit _ _ (by omega) (by simp only[List.length_cons,List.length_nil]at h1 ⊢;omega)
set_option maxHeartbeats 1000000 in
theorem escapedWithin_any {w:World} {X G sz B W:Nat} {xs:List Nat} {ps:List Pt} (h:RowIn w X G sz B W xs ps) (hf:Fits xs ps):
    Calls Tryz.prog 173 #[.pointer (some ⟨X,0,none⟩),.pointer (some ⟨W,0,none⟩)] w fun e w'=>RowEnd w w' e X G sz B W (escapedWithinM xs ps):=by
  have HT:=yH (take_any h.rd);have HI:=yH h;have HF:=yH hf
  cases ht:xs.tail with
  |nil=>
    have HM:=yH (show escapedWithinM xs ps= .error 2 by unfold escapedWithinM;rw[ht]);have HTL:=yH ht;clear h hf ht;go_enter Tryz.func173,Tryz.ntmps173
    go_wp2_with (first
      |(go_at_call 97;refine HT.out.mono ?_;rintro e w1 ⟨rfl,hs1⟩;have HS1:=yH hs1;clear hs1;have HN:=yH (next_any HS1.out.1))
      |(go_at_call 72;refine HN.out.mono ?_;rintro e w2 ⟨rfl,rfl⟩;rw[HTL.out,next_nil]))
    go_ret;rw[HM.out];exact⟨.inl rfl,rfl,HS1.out.2.wide⟩
  |cons c r=>
    have hg:GoodL c:=h.rd.good c (List.mem_of_mem_tail (by rw[ht];simp))
    have hx:((c:Int)==0)=false:=by
      have:=hg.1;have:¬(c:Int)=0:=(by omega)
      simpa using this
    obtain⟨b,hb⟩:∃b,acts c=b:=⟨_,rfl⟩;have HM:=yH (show escapedWithinM xs ps= .ok (lit (if b then ps else lit ps [92] true) (enc [c]) true,r) by unfold escapedWithinM;rw[ht];simp only[hb]);have HTL:=yH ht;have HG:=yH (encode_good hg);have HL:=yH (show(enc [c]).length≤16000 by have:=(enc_length [c]).2;simp only[List.length_singleton]at this;omega);have HA:=yH (fun W=>by have:=acts_any c (.inr hg) W;rw[hb]at this;exact this);have HF2:=yH (fits_lit92 hf ht);clear h hf ht hg hb
    cases b with
    |true=>
      go_enter Tryz.func173,Tryz.ntmps173;go_wp2_with fail;refine HT.out.mono ?_;rintro e w1 ⟨rfl,hs1⟩;rw[HTL.out]at hs1;have HS1:=yH hs1;have HN:=yH (next_any hs1.1);clear hs1
      go_wp2_with (first
        |(go_at_call 72;refine HN.out.mono ?_;rintro e w2 ⟨rfl,rfl⟩;rw[next_cons])
        |(go_at_call 152;refine(HA.out _).mono ?_;rintro e w2 ⟨rfl,hb2⟩;have HB2:=yH hb2;clear hb2;have HT2:=yH (take_any (HS1.out.below HB2.out).1))
        |(go_at_call 97;refine HT2.out.mono ?_;rintro e w3 ⟨rfl,hs3⟩;rw[List.tail_cons]at hs3;rw[next_cons];have HS3:=yH ((HS1.out.below HB2.out).trans hs3);clear hs3;have HP:=yH (lit_any (HI.out.step HS3.out).row HF.out (enc [c]) HL.out true))
        |(rw[HG.out];go_at_call 126;refine HP.out.mono ?_;rintro e w4 ⟨rfl,hr4,hk4⟩;have HR4:=yH (And.intro hr4 hk4);clear hr4 hk4))
      go_ret;rw[HM.out];exact⟨rfl,((HI.out.step HS3.out).put HR4.out.1 HR4.out.2).rd,HR4.out.1,HS3.out.2.wide.on HR4.out.2.wideB⟩
    |false=>
      go_enter Tryz.func173,Tryz.ntmps173;go_wp2_with fail;refine HT.out.mono ?_;rintro e w1 ⟨rfl,hs1⟩;rw[HTL.out]at hs1;have HS1:=yH hs1;have HN:=yH (next_any hs1.1);clear hs1
      go_wp2_with (first
        |(go_at_call 72;refine HN.out.mono ?_;rintro e w2 ⟨rfl,rfl⟩;rw[next_cons])
        |(go_at_call 152;refine(HA.out _).mono ?_;rintro e w2 ⟨rfl,hb2⟩;have HB2:=yH (HS1.out.below hb2);clear hb2;have HP0:=yH (lit_any (HI.out.step HB2.out).row HF.out [92] (by decide) true)))
      refine HP0.out.mono ?_;rintro e w3 ⟨rfl,hr3,hk3⟩;have HI3:=yH ((HI.out.step HB2.out).put hr3 hk3);have HK3:=yH (HB2.out.2.wide.on hk3.wideB);have HT2:=yH (take_any HI3.out.rd);clear hr3 hk3
      go_wp2_with (first
        |(go_at_call 97;refine HT2.out.mono ?_;rintro e w4 ⟨rfl,hs4⟩;rw[List.tail_cons]at hs4;rw[next_cons];have HS4:=yH hs4;clear hs4;have HP:=yH (lit_any (HI3.out.step HS4.out).row HF2.out (enc [c]) HL.out true))
        |(rw[HG.out];go_at_call 126;refine HP.out.mono ?_;rintro e w5 ⟨rfl,hr5,hk5⟩;have HR5:=yH (And.intro hr5 hk5);clear hr5 hk5))
      go_ret;rw[HM.out];exact⟨rfl,((HI3.out.step HS4.out).put HR5.out.1 HR5.out.2).rd,HR5.out.1,(HK3.out.on HS4.out.2.wide).on HR5.out.2.wideB⟩
theorem ret_part {fn:Func} {p u:Tmp} (hf:fn.results= #[.cell p 113,.tmp u]) {tmps:Array Value} {k:Nat} {a b c d e x:Value} {w:World} {t:TypeId} {fr:Nat×Nat} (h:w.heap[k]? =some (.cells #[a,b,c,d,e] t fr)) (h2:tmps.getD p undef= .pointer (some ⟨k,0,none⟩)) (h3:tmps.getD u undef=x):
    (results fn tmps).run Tryz.prog w= .ok (.tuple #[.agg #[a,b,c,d,e],x]) w:=by
  rw[results_cell_tmp hf,h2,h3];simp[asAddr,Result.andThen,load_part h]
def PartEnd (w w':World) (e:Ending) (X G sz:Nat) (m:Res Pt):Prop:=
  match m with
  | .ok (p,xs)=> ∃u,e= .returned (.tuple #[partV p u,.int .i64 0])∧WordN w' w.heap.size u p.word∧Rd w' X G sz xs∧Kept (fun k=>k=X) w w'
  | .error c=>(c=2∨c=3)∧(∃p:Pt,e= .returned (.tuple #[partV p zeroV,.int .i64 (c:Int)]))∧Kept (fun k=>k=X) w w'
theorem got_good {S:Nat→Bool} {xs:List Nat} (h:∀c∈xs,GoodL c):∀c∈got S xs,GoodL c:=fun c hc=>h c (by rw[←got_left S xs];exact List.mem_append_left _ hc)
theorem nameV {l:List Nat} (h:∀c∈l,GoodL c) (w:World):
    Calls Tryz.prog 178 #[txt (enc l)] w fun e w'=>e= .returned (.bool (nameL l))∧Below w.heap.size w w':=by
  have:=name_any ⟨(enc l).toArray⟩ w
  rwa [letters_enc l h]at this
set_option maxHeartbeats 1000000 in
set_option maxRecDepth 100000 in
theorem parameter_other {w:World} {X G sz:Nat} {xs:List Nat} (h:Rd w X G sz xs) (ho:other (next xs)=true):
    Calls Tryz.prog 151 #[.pointer (some ⟨X,0,none⟩)] w fun e w'=>e= .returned (.tuple #[partV ⟨2,enc [next xs],[],[],false⟩ zeroV,.int .i64 0])∧RStep w w' X G sz xs.tail:=by
  have hg:GoodL (next xs):=(next_lt0 h.good).resolve_left fun e=>(by rw[e]at ho;cases ho);have HR:=yH (h.below ((Below.refl _ w).alloc (Nat.le_refl _) ZB));have HA:=yH (fun W=>by have:=other_any (next xs) (.inr hg) W;rw[ho]at this;exact this);have HE:=yH (encode_good hg);have HX:=yH h.lt;obtain⟨c,hc⟩:∃c,next xs=c:=⟨_,rfl⟩;rw[hc]at HA HE ⊢;have HC:=yH hc;clear h ho hg hc;go_enter Tryz.func151,Tryz.ntmps151
  go_wp2_with (first
    |(go_at_call 72;refine(next_any HR.out).mono ?_;rintro e w1 ⟨rfl,rfl⟩;rw[HC.out])
    |(go_at_call 150;refine(HA.out _).mono ?_;rintro e w1 ⟨rfl,hb1⟩;have HB1:=yH hb1;clear hb1))
  refine(take_any (HR.out.below HB1.out)).mono ?_;rintro e w2 ⟨rfl,hs2⟩;rw[HC.out];have hblk:w2.heap[w.heap.size]? =some ZB:=hs2.2.heap ((HB1.out.block _ (by simp)).trans (heap_alloc_new w _)) (fun e=>by have:=HX.out.1;omega);obtain⟨d0,d1,d2,d3,d4⟩:=five_cells hblk;have fz:=five_free hblk;have f0:=fz 0;have f1:=fz 1;have f2:=fz 2;have f3:=fz 3;have f4:=fz 4;have HB:=yH hblk;have HS2:=yH hs2;clear hblk fz hs2;go_wp2_with fail
  (try simp only[Exit.inBlock,Exit.then])
  refine bodyPost_ret (ret_part rfl (five_put HB.out _ _ _ _ _) rfl rfl) rfl ⟨by rw[HE.out];rfl,?_,?_⟩
  · exact HS2.out.1.kept (five_kept (D:=fun k=>w.heap.size≤k) (Kept.refl _ _) (.inl (Nat.le_refl _)) _ _ _ _ _) (by have:=HX.out.1;omega) (by have:=HX.out.2;omega)
  · exact(((Kept.of_below ((Below.refl _ w).alloc (Nat.le_refl _) ZB)).trans (Kept.of_below (D:=fun _=>False) HB1.out) (fun _ h=>h.elim)).on HS2.out.2).trans (five_kept (D:=fun k=>w.heap.size≤k) (Kept.refl _ _) (.inl (Nat.le_refl _)) _ _ _ _ _) (fun _ h=> .inr h)
def ParEnd (w w':World) (e:Ending) (X G sz:Nat) (m:Res (List Nat)):Prop:=
  match m with
  | .ok (l,r)=>e= .returned (.tuple #[partV ⟨2,enc l,[],[],false⟩ zeroV,.int .i64 0])∧RStep w w' X G sz r∧(∀c∈l,GoodL c)
  | .error c=>c=2∧e= .returned (.tuple #[partV ⟨0,[],[],[],false⟩ zeroV,.int .i64 2])∧Kept (fun k=>k=X) w w'
theorem var_kept {w w1 w2:World} {X:Nat} (hb:Below (w.alloc ZB).heap.size (w.alloc ZB) w1) (k:Kept (fun k=>k=X) w1 w2) (a b c d e:Value):
    Kept (fun k=>k=X) w (((((w2.setCell ⟨w.heap.size,0,none⟩ a).setCell ⟨w.heap.size,1,none⟩ b).setCell ⟨w.heap.size,2,none⟩ c).setCell ⟨w.heap.size,3,none⟩ d).setCell ⟨w.heap.size,4,none⟩ e):=
  (((Kept.of_below ((Below.refl _ w).alloc (Nat.le_refl _) ZB)).trans (Kept.of_below (D:=fun _=>False) hb) (fun _ h=>h.elim)).on k).trans (five_kept (D:=fun k=>w.heap.size≤k) (Kept.refl _ _) (.inl (Nat.le_refl _)) _ _ _ _ _) (fun _ h=> .inr h)
theorem Rd.five {w:World} {X G sz:Nat} {xs:List Nat} (h:Rd w X G sz xs) {k:Nat} (hX:X≠k) (hG:G≠k) (a b c d e:Value):
    Rd (((((w.setCell ⟨k,0,none⟩ a).setCell ⟨k,1,none⟩ b).setCell ⟨k,2,none⟩ c).setCell ⟨k,3,none⟩ d).setCell ⟨k,4,none⟩ e) X G sz xs:=
  h.kept (five_kept (D:=fun j=>j=k) (Kept.refl _ _) (.inl rfl) a b c d e) hX hG
set_option maxHeartbeats 1000000 in
set_option maxRecDepth 100000 in
theorem parameter_name {w:World} {X G sz:Nat} {xs:List Nat} (h:Rd w X G sz xs) (ho:other (next xs)=false):
    Calls Tryz.prog 151 #[.pointer (some ⟨X,0,none⟩)] w fun e w'=>ParEnd w w' e X G sz (parameterM xs):=by
  have HR:=yH (h.below ((Below.refl _ w).alloc (Nat.le_refl _) ZB));have hlt:=next_lt0 h.good;have HA:=yH (fun W=>by have:=other_any (next xs) hlt W;rw[ho]at this;exact this);have HX:=yH h.lt;obtain⟨l,hl⟩:∃l,got (fun r=> !moreR r) xs=l:=⟨_,rfl⟩;obtain⟨r,hr⟩:∃r,left (fun r=> !moreR r) xs=r:=⟨_,rfl⟩;have hgl:∀c∈l,GoodL c:=(by rw[←hl];exact got_good h.good);obtain⟨b,hb⟩:∃b,nameL l=b:=⟨_,rfl⟩;obtain⟨T,hT⟩:∃T:ByteArray,txt (enc l)= .string T:=⟨_,rfl⟩;have HNM:=yH (fun W=>by have:=nameV hgl W;rw[hb,hT]at this;exact this);have HTX:=yH hT;have HO:=yH (And.intro ho hb);have HLR:=yH (And.intro hl hr);have HGL:=yH hgl;obtain⟨c,hc⟩:∃c,next xs=c:=⟨_,rfl⟩;rw[hc]at HA;have HC:=yH hc;clear h ho hlt hl hr hgl hb hc hT
  cases b
  all_goals
    go_enter Tryz.func151,Tryz.ntmps151
    go_wp2_with (first
      |(go_at_call 72;refine(next_any HR.out).mono ?_;rintro e w1 ⟨rfl,rfl⟩;rw[HC.out])
      |(go_at_call 150;refine(HA.out _).mono ?_;rintro e w1 ⟨rfl,hb1⟩;have HB1:=yH hb1;clear hb1)
      |(go_at_call 70;refine(till_any stops_name (HR.out.below HB1.out) (fun _ _=>trivial)).mono ?_;rintro e w2 ⟨rfl,hs2⟩;rw[HLR.out.1,HTX.out];rw[HLR.out.2]at hs2;have HS2:=yH hs2;clear hs2))
    refine(HNM.out _).mono ?_;rintro e w3 ⟨rfl,hb3⟩;have hs3:=HS2.out.below hb3;have hblk:w3.heap[w.heap.size]? =some ZB:=hs3.2.heap ((HB1.out.block _ (by simp)).trans (heap_alloc_new w _)) (fun e=>by have:=HX.out.1;omega);obtain⟨d0,d1,d2,d3,d4⟩:=five_cells hblk;have fz:=five_free hblk;have f0:=fz 0;have f1:=fz 1;have f2:=fz 2;have f3:=fz 3;have f4:=fz 4;have HB:=yH hblk;have HS3:=yH hs3;clear hblk fz hs3 hb3;go_wp2_with fail
    (try simp only[Exit.inBlock,Exit.then])
    refine bodyPost_ret (ret_part rfl (five_put HB.out _ _ _ _ _) rfl rfl) rfl ?_
  · rw[show parameterM xs= .error 2 by unfold parameterM;rw[HO.out.1,HLR.out.1,HO.out.2];rfl]
    exact⟨rfl,rfl,var_kept HB1.out HS3.out.2 _ _ _ _ _⟩
  · rw[show parameterM xs= .ok (l,r) by unfold parameterM;rw[HO.out.1,HLR.out.1,HLR.out.2,HO.out.2];rfl]
    exact⟨by rw[partV,HTX.out];rfl,⟨HS3.out.1.five (by have:=HX.out.1;omega) (by have:=HX.out.2;omega) _ _ _ _ _,var_kept HB1.out HS3.out.2 _ _ _ _ _⟩,HGL.out⟩
theorem parameter_any {w:World} {X G sz:Nat} {xs:List Nat} (h:Rd w X G sz xs):
    Calls Tryz.prog 151 #[.pointer (some ⟨X,0,none⟩)] w fun e w'=>ParEnd w w' e X G sz (parameterM xs):=by
  cases ho:other (next xs)with
  |false=>exact parameter_name h ho
  |true=>
    have hm:parameterM xs= .ok ([next xs],xs.tail):=(by unfold parameterM;rw[ho];rfl);rw[hm];refine(parameter_other h ho).mono fun e w' ⟨h1,h2⟩=>⟨h1,h2,fun c hc=> ?_⟩;obtain rfl:c=next xs:=(by simpa using hc);exact(next_lt0 h.good).resolve_left fun e=>(by rw[e]at ho;cases ho)
theorem takesM {w:World} {X G sz:Nat} {xs:List Nat} (h:Rd w X G sz xs) (p:ByteArray) (ps:List Nat) (hp:p.data.toList.map (·.toNat)=ps) (hlow:∀b∈p.data.toList,0<b.toNat∧b.toNat<128) {m:Option (List Nat)} (hm:takes ps xs=m):
    Calls Tryz.prog 99 #[.pointer (some ⟨X,0,none⟩),.string p] w fun e w'=>e= .returned (.bool m.isSome)∧RStep w w' X G sz (m.getD xs):=by
  have:=takes_any p ps hp hlow h
  rwa [hm]at this
def OpEnd (w w':World) (e:Ending) (X G sz:Nat) (xs:List Nat) (m:Option (List UInt8×List Nat)):Prop:=
  match m with
  |some (o,r)=>e= .returned (txt o)∧o≠ []∧RStep w w' X G sz r
  |none=>e= .returned (txt [])∧RStep w w' X G sz xs
set_option maxHeartbeats 1000000 in
theorem op_any {w:World} {X G sz:Nat} {xs l:List Nat} (h:Rd w X G sz xs) (hl:∀c∈l,GoodL c):
    Calls Tryz.prog 194 #[.pointer (some ⟨X,0,none⟩),txt (enc l)] w fun e w'=>OpEnd w w' e X G sz xs (opM (nameL l) xs):=by
  obtain⟨T,hT⟩:∃T,txt (enc l)=T:=⟨_,rfl⟩;obtain⟨b,hb⟩:∃b,nameL l=b:=⟨_,rfl⟩;have HNM:=yH (fun W=>by have:=nameV hl W;rw[hb,hT]at this;exact this);rw[hT,hb];obtain⟨m1,h1⟩:∃m,takes [58,45] xs=m:=⟨_,rfl⟩;obtain⟨m2,h2⟩:∃m,takes [58,43] xs=m:=⟨_,rfl⟩;obtain⟨m3,h3⟩:∃m,takes [58,61] xs=m:=⟨_,rfl⟩;have HR:=yH h;have H1:=yH (fun (W:World) (hR:Rd W X G sz xs)=>takesM hR ⟨#[58,45]⟩ [58,45] rfl (by decide) h1);have H2:=yH (fun (W:World) (hR:Rd W X G sz xs)=>takesM hR ⟨#[58,43]⟩ [58,43] rfl (by decide) h2);have H3:=yH (fun (W:World) (hR:Rd W X G sz xs)=>takesM hR ⟨#[58,61]⟩ [58,61] rfl (by decide) h3);have HM:=yH (And.intro h1 (And.intro h2 h3));have HT:=yH hT;clear h h1 h2 h3 hl hb hT
  cases m1 with
  |some r=>
    go_enter Tryz.func194,Tryz.ntmps194
    go_wp2_with (go_at_call 99;refine(H1.out _ HR.out).mono ?_;rintro e w1 ⟨rfl,hs1⟩;have HS1:=yH hs1;clear hs1)
    go_ret;unfold opM;rw[HM.out.1];exact⟨rfl,by simp,HS1.out⟩
  |none=>
    cases m2 with
    |some r=>
      go_enter Tryz.func194,Tryz.ntmps194;go_wp2_with fail;refine(H1.out _ HR.out).mono ?_;rintro e w1 ⟨rfl,hs1⟩;have HS1:=yH hs1;clear hs1
      go_wp2_with (go_at_call 99;refine(H2.out _ HS1.out.1).mono ?_;rintro e w2 ⟨rfl,hs2⟩;have HS2:=yH hs2;clear hs2)
      go_ret;unfold opM;rw[HM.out.1,HM.out.2.1];exact⟨rfl,by simp,HS1.out.trans HS2.out⟩
    |none=>
      cases b with
      |false=>
        go_enter Tryz.func194,Tryz.ntmps194;go_wp2_with fail;refine(H1.out _ HR.out).mono ?_;rintro e w1 ⟨rfl,hs1⟩;have HS1:=yH hs1;clear hs1;go_wp2_with fail;refine(H2.out _ HS1.out.1).mono ?_;rintro e w2 ⟨rfl,hs2⟩;have HS2:=yH (HS1.out.trans hs2);clear hs2
        go_wp2_with (go_at_call 178;refine(HNM.out _).mono ?_;rintro e w3 ⟨rfl,hb3⟩;have HS3:=yH (HS2.out.below hb3);clear hb3)
        go_ret;unfold opM;rw[HM.out.1,HM.out.2.1];exact⟨rfl,HS3.out⟩
      |true=>
        cases m3
        all_goals
          go_enter Tryz.func194,Tryz.ntmps194;go_wp2_with fail;refine(H1.out _ HR.out).mono ?_;rintro e w1 ⟨rfl,hs1⟩;have HS1:=yH hs1;clear hs1;go_wp2_with fail;refine(H2.out _ HS1.out.1).mono ?_;rintro e w2 ⟨rfl,hs2⟩;have HS2:=yH (HS1.out.trans hs2);clear hs2
          go_wp2_with (first
            |(go_at_call 178;refine(HNM.out _).mono ?_;rintro e w3 ⟨rfl,hb3⟩;have HS3:=yH (HS2.out.below hb3);clear hb3)
            |(go_at_call 99;refine(H3.out _ HS3.out.1).mono ?_;rintro e w4 ⟨rfl,hs4⟩;have HS4:=yH hs4;clear hs4))
          go_ret;unfold opM;rw[HM.out.1,HM.out.2.1,if_pos rfl,HM.out.2.2]
        · exact⟨rfl,HS3.out.trans HS4.out⟩
        · exact⟨rfl,by simp,HS3.out.trans HS4.out⟩
theorem zb_facts {W:World} {R:Nat} (h:W.heap[R]? =some ZB):
    (W.cell? ⟨R,0,none⟩=some (.int .i64 0)∧W.cell? ⟨R,1,none⟩=some (.string ⟨#[]⟩)∧W.cell? ⟨R,2,none⟩=some (.string ⟨#[]⟩)∧W.cell? ⟨R,3,none⟩=some (.slice none 0 0)∧W.cell? ⟨R,4,none⟩=some (.bool false))∧
      (W.frozen? ⟨R,0,none⟩=false∧W.frozen? ⟨R,1,none⟩=false∧W.frozen? ⟨R,2,none⟩=false∧W.frozen? ⟨R,3,none⟩=false∧W.frozen? ⟨R,4,none⟩=false):=
  ⟨five_cells h,five_free h 0,five_free h 1,five_free h 2,five_free h 3,five_free h 4⟩
structure ArAt (w wr:World) (X G sz:Nat) (xs:List Nat) (n:Nat) (acc ys:List Nat):Prop where
  rd:Rd wr X G sz ys
  bld:Bld wr (w.heap.size+1) (w.heap.size+1) (enc acc)
  kept:Kept (fun k=>k=X) w wr
  zb:wr.heap[w.heap.size]? =some ZB
  size:w.heap.size+1<wr.heap.size
  said:arithM xs 0 []=arithM ys n acc
  few:acc.length+ys.length≤xs.length
  low:n+ys.length≤4000
theorem ArAt.step {w wr w':World} {X G sz n:Nat} {xs acc ys zs:List Nat} (h:ArAt w wr X G sz xs n acc ys) (hX:X<w.heap.size) (k:RStep wr w' X G sz zs):
    Bld w' (w.heap.size+1) (w.heap.size+1) (enc acc)∧Kept (fun k=>k=X) w w'∧w'.heap[w.heap.size]? =some ZB∧w.heap.size+1<w'.heap.size:=
  ⟨h.bld.kept k.2 (fun j hj e=>by omega),h.kept.on k.2,k.2.heap h.zb (fun e=>by omega),Nat.lt_of_lt_of_le h.size k.2.size⟩
theorem arith_nil (n:Nat) (acc:List Nat):arithM [] n acc= .error 2:=rfl
theorem arith_end (r acc:List Nat) (h:next r=41):arithM (41::r) 0 acc= .ok (acc,r.tail):=by rw[arithM,if_pos ⟨rfl,rfl⟩,if_pos h]
theorem arith_bad (r acc:List Nat) (h:next r≠41):arithM (41::r) 0 acc= .error 2:=by rw[arithM,if_pos ⟨rfl,rfl⟩,if_neg h]
theorem arith_go (c:Nat) (r acc:List Nat) (n m:Nat) (h1:¬(n=0∧c=41)) (h2:reckons c=true) (h3:m=if c=40 then n+1 else if c=41 then n-1 else n):arithM (c::r) n acc=arithM r m (acc++ [c]):=by
  rw[arithM,if_neg h1,if_pos h2,h3]
theorem arith_no (c:Nat) (r acc:List Nat) (n:Nat) (h1:¬(n=0∧c=41)) (h2:reckons c=false):arithM (c::r) n acc= .error 2:=by
  rw[arithM,if_neg h1,if_neg (by rw[h2];decide)]
theorem takes2 (c:Nat) (r:List Nat):takes [41,41] (c::r)=if c=41∧next r=41 then some r.tail else none:=by
  cases r with
  |nil=>
    by_cases h:c=41
    · subst h;rfl
    · rw[if_neg (fun e=>h e.1)];unfold takes;rw[if_neg (fun e=>h e.symm)]
  |cons d s=>
    by_cases h:c=41
    · subst h
      by_cases k:d=41
      · subst k;rfl
      · rw[if_neg (fun e=>k e.2)];unfold takes;rw[if_pos rfl];unfold takes;rw[if_neg (fun e=>k e.symm)]
    · rw[if_neg (fun e=>h e.1)];unfold takes;rw[if_neg (fun e=>h e.symm)]
set_option maxHeartbeats 4000000 in
set_option maxRecDepth 100000 in
theorem arith_any {w:World} {X G sz:Nat} {xs:List Nat} (h:Rd w X G sz xs):
    Calls Tryz.prog 148 #[.pointer (some ⟨X,0,none⟩)] w fun e w'=>PartEnd w w' e X G sz (match arithM xs 0 []with| .error c=> .error c| .ok (l,r)=> .ok (⟨3,enc l,[],[],false⟩,r)):=by
  have HX:=yH h.lt;have HF:=yH h.few;have HR0:=yH h;obtain⟨M,hM⟩:∃M:Res Pt,(match arithM xs 0 []with| .error c=> .error c| .ok (l,r)=> .ok (⟨3,enc l,[],[],false⟩,r))=M:=⟨_,rfl⟩;rw[hM];have HM:=yH hM;clear h hM;go_enter Tryz.func148,Tryz.ntmps148;go_wp2_with fail
  go_loopw [5] (fun i wr=> ∃(n:Nat) (acc ys:List Nat),i= .int .i64 (n:Int)∧ArAt w wr X G sz xs n acc ys) (fun _ wr=>lenAt wr X)
  case atStart=>
    have hb1:Below w.heap.size w (w.alloc ZB):=(Below.refl _ w).alloc (Nat.le_refl _) _;have hb2:Below w.heap.size w ((w.alloc ZB).alloc (.cells #[.pointer none,.slice none 0 0] 144)):=hb1.alloc (by simp) _;refine⟨0,[],xs,rfl,HR0.out.below hb2,?_,Kept.of_below hb2,(Below.heap_alloc _ _ _ (by simp)).trans (heap_alloc_new w _),by simp,rfl,by simp,by have:=HF.out;omega⟩;have hn:=Bld.new (w.alloc ZB)
    rwa [show (w.alloc ZB).heap.size=w.heap.size+1 by simp]at hn
  case round=>
    obtain⟨n,acc,ys,rfl,hA⟩:=hrel;have HA:=yH hA;clear hA
    by_cases hn0:n=0
    · subst hn0
      cases ys with
      |nil=>
        have HTK:=yH (takesM HA.out.rd ⟨#[41,41]⟩ [41,41] rfl (by decide) (m:=none) rfl);have HRK:=yH (fun W=>(show _ from by have:=reckons_any 0 (.inl rfl) W;rw[show reckons 0=false from rfl]at this;exact this))
        go_wp2_with (first
          |(go_at_call 99;refine HTK.out.mono ?_;rintro e w1 ⟨rfl,hs1⟩;simp only[Option.getD_none]at hs1;have HS1:=yH hs1;clear hs1;obtain⟨⟨d0,d1,d2,d3,d4⟩,f0,f1,f2,f3,f4⟩:=zb_facts (HA.out.step HX.out.1 HS1.out).2.2.1)
          |(go_at_call 72;refine(next_any HS1.out.1).mono ?_;rintro e w2 ⟨rfl,rfl⟩;rw[next_nil])
          |(go_at_call 175;refine(HRK.out _).mono ?_;rintro e w3 ⟨rfl,hb3⟩;have HS3:=yH (HS1.out.below hb3);clear hb3;clear d0 d1 d2 d3 d4 f0 f1 f2 f3 f4;obtain⟨⟨d0,d1,d2,d3,d4⟩,f0,f1,f2,f3,f4⟩:=zb_facts (HA.out.step HX.out.1 HS3.out).2.2.1))
        (try simp only[Exit.inBlock,Exit.then])
        refine bodyPost_ret (ret_part rfl (five_put (HA.out.step HX.out.1 HS3.out).2.2.1 _ _ _ _ _) rfl rfl) rfl ?_;rw[←HM.out,HA.out.said,arith_nil];exact⟨.inl rfl,⟨⟨0,[],[],[],false⟩,rfl⟩,(HA.out.step HX.out.1 HS3.out).2.1.trans (five_kept (D:=fun k=>w.heap.size≤k) (Kept.refl _ _) (.inl (Nat.le_refl _)) _ _ _ _ _) (fun _ h=> .inr h)⟩
      |cons c r=>
        have hgc:=HA.out.rd.good c (by simp);have HGC:=yH hgc
        by_cases hc:c=41
        · subst hc
          clear hgc
          by_cases hr:next r=41
          · have HTK:=yH (takesM HA.out.rd ⟨#[41,41]⟩ [41,41] rfl (by decide) (m:=some r.tail) (by rw[takes2,if_pos ⟨rfl,hr⟩]))
            have HWHY:=yH (arith_end r acc hr);obtain⟨T,hT⟩:∃T:ByteArray,txt (enc acc)= .string T:=⟨_,rfl⟩;have HTX:=yH hT;have HSZ:=yH (show w.heap.size<w.heap.size+1 by omega);clear hr hT
            go_wp2_with (first
              |(go_at_call 99;refine HTK.out.mono ?_;rintro e w1 ⟨rfl,hs1⟩;simp only[Option.getD_some]at hs1;have HS1:=yH hs1;clear hs1;obtain⟨⟨d0,d1,d2,d3,d4⟩,f0,f1,f2,f3,f4⟩:=zb_facts (HA.out.step HX.out.1 HS1.out).2.2.1)
              |(go_at_call 98;refine(string_any (w.heap.size+1) (w.heap.size+1) (enc acc) w1 (HA.out.step HX.out.1 HS1.out).1 (Nat.le_of_lt (HA.out.step HX.out.1 HS1.out).2.2.2)).mono ?_;rintro e w6 ⟨rfl,hb6⟩;rw[HTX.out];have HB6:=yH hb6;clear hb6 d0 d1 d2 d3 d4 f0 f1 f2 f3 f4;obtain⟨⟨d0,d1,d2,d3,d4⟩,f0,f1,f2,f3,f4⟩:=zb_facts ((HB6.out.block _ HSZ.out).trans (HA.out.step HX.out.1 HS1.out).2.2.1)))
            (try simp only[Exit.inBlock,Exit.then])
            obtain⟨s1,s2,s3,s4⟩:=HA.out.step HX.out.1 HS1.out;have hx:=HX.out;have hk6:Kept (fun k=>w.heap.size≤k) w1 w6:=⟨HB6.out.os,HB6.out.tape,HB6.out.output,HB6.out.size,fun k _ hd=>HB6.out.block k (by omega)⟩;refine bodyPost_ret (ret_part rfl (five_put ((HB6.out.block _ HSZ.out).trans s3) _ _ _ _ _) rfl rfl) rfl ?_;rw[←HM.out,HA.out.said,HWHY.out];refine⟨zeroV,by rw[partV,HTX.out];rfl,WordN.nil _ _,?_,?_⟩
            · exact(HS1.out.1.kept hk6 (by omega) (by omega)).five (by omega) (by omega) _ _ _ _ _
            · exact(s2.trans hk6 (fun _ h=> .inr h)).trans (five_kept (D:=fun k=>w.heap.size≤k) (Kept.refl _ _) (.inl (Nat.le_refl _)) _ _ _ _ _) (fun _ h=> .inr h)
          · have HTK:=yH (takesM HA.out.rd ⟨#[41,41]⟩ [41,41] rfl (by decide) (m:=none) (by rw[takes2,if_neg (fun e=>hr e.2)]))
            have HWHY:=yH (arith_bad r acc hr);clear hr
            go_wp2_with (first
              |(go_at_call 99;refine HTK.out.mono ?_;rintro e w1 ⟨rfl,hs1⟩;simp only[Option.getD_none]at hs1;have HS1:=yH hs1;clear hs1;obtain⟨⟨d0,d1,d2,d3,d4⟩,f0,f1,f2,f3,f4⟩:=zb_facts (HA.out.step HX.out.1 HS1.out).2.2.1)
              |(go_at_call 72;refine(next_any HS1.out.1).mono ?_;rintro e w2 ⟨rfl,rfl⟩;rw[next_cons]))
            (try simp only[Exit.inBlock,Exit.then])
            refine bodyPost_ret (ret_part rfl (five_put (HA.out.step HX.out.1 HS1.out).2.2.1 _ _ _ _ _) rfl rfl) rfl ?_;rw[←HM.out,HA.out.said,HWHY.out];exact⟨.inl rfl,⟨⟨0,[],[],[],false⟩,rfl⟩,(HA.out.step HX.out.1 HS1.out).2.1.trans (five_kept (D:=fun k=>w.heap.size≤k) (Kept.refl _ _) (.inl (Nat.le_refl _)) _ _ _ _ _) (fun _ h=> .inr h)⟩
        · have HTK:=yH (takesM HA.out.rd ⟨#[41,41]⟩ [41,41] rfl (by decide) (m:=none) (by rw[takes2,if_neg (fun e=>hc e.1)]))
          obtain⟨b,hb⟩:∃b,reckons c=b:=⟨_,rfl⟩;have HRK:=yH (fun W=>by have:=reckons_any c (.inr HGC.out) W;rw[hb]at this;exact this)
          by_cases h40:c=40
          · subst h40
            obtain rfl:b=true:=(by rw[←hb];rfl);have HWHY:=yH (arith_go 40 r acc 0 (0+1) (by simp) hb rfl);clear hb hc hgc
            go_wp2_with (first
              |(go_at_call 99;refine HTK.out.mono ?_;rintro e w1 ⟨rfl,hs1⟩;simp only[Option.getD_none]at hs1;have HS1:=yH hs1;clear hs1;obtain⟨⟨d0,d1,d2,d3,d4⟩,f0,f1,f2,f3,f4⟩:=zb_facts (HA.out.step HX.out.1 HS1.out).2.2.1)
              |(go_at_call 72;refine(next_any HS1.out.1).mono ?_;rintro e w2 ⟨rfl,rfl⟩;rw[next_cons])
              |(go_at_call 175;refine(HRK.out _).mono ?_;rintro e w3 ⟨rfl,hb3⟩;have HS3:=yH (HS1.out.below hb3);clear hb3;clear d0 d1 d2 d3 d4 f0 f1 f2 f3 f4;obtain⟨⟨d0,d1,d2,d3,d4⟩,f0,f1,f2,f3,f4⟩:=zb_facts (HA.out.step HX.out.1 HS3.out).2.2.1)
              |(go_at_call 97;refine(take_any HS3.out.1).mono ?_;rintro e w4 ⟨rfl,hs4⟩;rw[List.tail_cons]at hs4;rw[next_cons];have HS4:=yH (HS3.out.trans hs4);clear hs4;have HE:=yH (writeRune_any (w.heap.size+1) (w.heap.size+1) (enc acc) 40 HGC.out w4 (HA.out.step HX.out.1 HS4.out).1 (by have h1:=(enc_length acc).2;have h2:=HA.out.few;have h3:=HF.out;omega) (Nat.le_of_lt (HA.out.step HX.out.1 HS4.out).2.2.2)))
              |(go_at_call 96;refine HE.out.mono ?_;rintro e w5 ⟨⟨n5,rfl⟩,hd5,hb5⟩;have HD5:=yH (And.intro hd5 hb5);clear hd5 hb5))
            go_roundw
            case rel=>
              obtain⟨s1,s2,s3,s4⟩:=HA.out.step HX.out.1 HS4.out;have hk5:Kept (fun k=>w.heap.size+1≤k) w4 w5:=⟨HD5.out.2.os,HD5.out.2.tape,HD5.out.2.output,HD5.out.2.size,fun k _ hd=>HD5.out.2.block k (by omega)⟩;have hx:=HX.out;refine⟨0+1,acc++ [40],r,rfl,HS4.out.1.kept hk5 (by omega) (by omega),?_,s2.trans hk5 (fun i hi=> .inr (by omega)),hk5.heap s3 (by omega),Nat.lt_of_lt_of_le s4 hk5.size,HA.out.said.trans (HWHY.out),?_,?_⟩
              · rw[enc_append];simp only[enc,List.append_nil];exact HD5.out.1
              · have:=HA.out.few;simp only[List.length_append,List.length_cons,List.length_nil]at this ⊢;omega
              · have:=HA.out.low;simp only[List.length_cons]at this;omega
            case measure=>
              have hx:=HX.out;have hk5:Kept (fun k=>w.heap.size+1≤k) w4 w5:=⟨HD5.out.2.os,HD5.out.2.tape,HD5.out.2.output,HD5.out.2.size,fun k _ hd=>HD5.out.2.block k (by omega)⟩;have e1:=(HS4.out.1.kept hk5 (by omega) (by omega)).lenAt;have e2:=HA.out.rd.lenAt;simp only[e1,e2,List.length_cons];omega
          · have e40:((c:Int)==40)=false:=by
              have:¬(c:Int)=40:=by omega
              simpa using this
            have e41:((c:Int)==41)=false:=by
              have:¬(c:Int)=41:=by omega
              simpa using this
            cases b with
            |true=>
              have HWHY:=yH (arith_go c r acc 0 0 (fun e=>hc e.2) hb (by rw[if_neg h40,if_neg hc]));clear hb hc hgc h40
              go_wp2_with (first
                |(go_at_call 99;refine HTK.out.mono ?_;rintro e w1 ⟨rfl,hs1⟩;simp only[Option.getD_none]at hs1;have HS1:=yH hs1;clear hs1;obtain⟨⟨d0,d1,d2,d3,d4⟩,f0,f1,f2,f3,f4⟩:=zb_facts (HA.out.step HX.out.1 HS1.out).2.2.1)
                |(go_at_call 72;refine(next_any HS1.out.1).mono ?_;rintro e w2 ⟨rfl,rfl⟩;rw[next_cons])
                |(go_at_call 175;refine(HRK.out _).mono ?_;rintro e w3 ⟨rfl,hb3⟩;have HS3:=yH (HS1.out.below hb3);clear hb3;clear d0 d1 d2 d3 d4 f0 f1 f2 f3 f4;obtain⟨⟨d0,d1,d2,d3,d4⟩,f0,f1,f2,f3,f4⟩:=zb_facts (HA.out.step HX.out.1 HS3.out).2.2.1)
                |(go_at_call 97;refine(take_any HS3.out.1).mono ?_;rintro e w4 ⟨rfl,hs4⟩;rw[List.tail_cons]at hs4;rw[next_cons];have HS4:=yH (HS3.out.trans hs4);clear hs4;have HE:=yH (writeRune_any (w.heap.size+1) (w.heap.size+1) (enc acc) c HGC.out w4 (HA.out.step HX.out.1 HS4.out).1 (by have h1:=(enc_length acc).2;have h2:=HA.out.few;have h3:=HF.out;omega) (Nat.le_of_lt (HA.out.step HX.out.1 HS4.out).2.2.2)))
                |(go_at_call 96;refine HE.out.mono ?_;rintro e w5 ⟨⟨n5,rfl⟩,hd5,hb5⟩;have HD5:=yH (And.intro hd5 hb5);clear hd5 hb5))
              go_roundw
              case rel=>
                obtain⟨s1,s2,s3,s4⟩:=HA.out.step HX.out.1 HS4.out;have hk5:Kept (fun k=>w.heap.size+1≤k) w4 w5:=⟨HD5.out.2.os,HD5.out.2.tape,HD5.out.2.output,HD5.out.2.size,fun k _ hd=>HD5.out.2.block k (by omega)⟩;have hx:=HX.out;refine⟨0,acc++ [c],r,rfl,HS4.out.1.kept hk5 (by omega) (by omega),?_,s2.trans hk5 (fun i hi=> .inr (by omega)),hk5.heap s3 (by omega),Nat.lt_of_lt_of_le s4 hk5.size,HA.out.said.trans (HWHY.out),?_,?_⟩
                · rw[enc_append];simp only[enc,List.append_nil];exact HD5.out.1
                · have:=HA.out.few;simp only[List.length_append,List.length_cons,List.length_nil]at this ⊢;omega
                · have:=HA.out.low;simp only[List.length_cons]at this;omega
              case measure=>
                have hx:=HX.out;have hk5:Kept (fun k=>w.heap.size+1≤k) w4 w5:=⟨HD5.out.2.os,HD5.out.2.tape,HD5.out.2.output,HD5.out.2.size,fun k _ hd=>HD5.out.2.block k (by omega)⟩;have e1:=(HS4.out.1.kept hk5 (by omega) (by omega)).lenAt;have e2:=HA.out.rd.lenAt;simp only[e1,e2,List.length_cons];omega
            |false=>
              have HWHY:=yH (arith_no c r acc 0 (fun e=>hc e.2) hb);clear hb hc hgc h40
              go_wp2_with (first
                |(go_at_call 99;refine HTK.out.mono ?_;rintro e w1 ⟨rfl,hs1⟩;simp only[Option.getD_none]at hs1;have HS1:=yH hs1;clear hs1;obtain⟨⟨d0,d1,d2,d3,d4⟩,f0,f1,f2,f3,f4⟩:=zb_facts (HA.out.step HX.out.1 HS1.out).2.2.1)
                |(go_at_call 72;refine(next_any HS1.out.1).mono ?_;rintro e w2 ⟨rfl,rfl⟩;rw[next_cons])
                |(go_at_call 175;refine(HRK.out _).mono ?_;rintro e w3 ⟨rfl,hb3⟩;have HS3:=yH (HS1.out.below hb3);clear hb3;clear d0 d1 d2 d3 d4 f0 f1 f2 f3 f4;obtain⟨⟨d0,d1,d2,d3,d4⟩,f0,f1,f2,f3,f4⟩:=zb_facts (HA.out.step HX.out.1 HS3.out).2.2.1))
              (try simp only[Exit.inBlock,Exit.then])
              refine bodyPost_ret (ret_part rfl (five_put (HA.out.step HX.out.1 HS3.out).2.2.1 _ _ _ _ _) rfl rfl) rfl ?_;rw[←HM.out,HA.out.said,HWHY.out];exact⟨.inl rfl,⟨⟨0,[],[],[],false⟩,rfl⟩,(HA.out.step HX.out.1 HS3.out).2.1.trans (five_kept (D:=fun k=>w.heap.size≤k) (Kept.refl _ _) (.inl (Nat.le_refl _)) _ _ _ _ _) (fun _ h=> .inr h)⟩
    · have hp:(0:Int)<(n:Int):=by omega
      have hp1:(n:Int)≤4000:=(by have:=HA.out.low;omega);have HP:=yH (show 0<n by omega);have HS1:=yH (RStep.refl HA.out.rd);clear hn0
      cases ys with
      |nil=>
        have HRK:=yH (fun W=>(show _ from by have:=reckons_any 0 (.inl rfl) W;rw[show reckons 0=false from rfl]at this;exact this))
        go_wp2_with (first
          |(go_at_call 72;refine(next_any HS1.out.1).mono ?_;rintro e w2 ⟨rfl,rfl⟩;rw[next_nil])
          |(go_at_call 175;refine(HRK.out _).mono ?_;rintro e w3 ⟨rfl,hb3⟩;have HS3:=yH (HS1.out.below hb3);clear hb3;obtain⟨⟨d0,d1,d2,d3,d4⟩,f0,f1,f2,f3,f4⟩:=zb_facts (HA.out.step HX.out.1 HS3.out).2.2.1))
        (try simp only[Exit.inBlock,Exit.then])
        refine bodyPost_ret (ret_part rfl (five_put (HA.out.step HX.out.1 HS3.out).2.2.1 _ _ _ _ _) rfl rfl) rfl ?_;rw[←HM.out,HA.out.said,arith_nil];exact⟨.inl rfl,⟨⟨0,[],[],[],false⟩,rfl⟩,(HA.out.step HX.out.1 HS3.out).2.1.trans (five_kept (D:=fun k=>w.heap.size≤k) (Kept.refl _ _) (.inl (Nat.le_refl _)) _ _ _ _ _) (fun _ h=> .inr h)⟩
      |cons c r=>
        have hgc:=HA.out.rd.good c (by simp);have HGC:=yH hgc
        by_cases hc:c=41
        · subst hc
          have HRK:=yH (fun W=>by have:=reckons_any 41 (.inr HGC.out) W;rw[show reckons 41=true from rfl]at this;exact this);obtain⟨m,hm⟩:∃m:Nat,n=m+1:=⟨n-1,by have:=HP.out;omega⟩;subst hm;have HWHY:=yH (arith_go 41 r acc (m+1) m (by simp) rfl (by simp));have hm0:¬(m:Int)<0:=(by omega);clear hgc
          go_wp2_with (first
            |(go_at_call 72;refine(next_any HS1.out.1).mono ?_;rintro e w2 ⟨rfl,rfl⟩;rw[next_cons])
            |(go_at_call 175;refine(HRK.out _).mono ?_;rintro e w3 ⟨rfl,hb3⟩;have HS3:=yH (HS1.out.below hb3);clear hb3;obtain⟨⟨d0,d1,d2,d3,d4⟩,f0,f1,f2,f3,f4⟩:=zb_facts (HA.out.step HX.out.1 HS3.out).2.2.1)
            |(go_at_call 97;refine(take_any HS3.out.1).mono ?_;rintro e w4 ⟨rfl,hs4⟩;rw[List.tail_cons]at hs4;rw[next_cons];have HS4:=yH (HS3.out.trans hs4);clear hs4;have HE:=yH (writeRune_any (w.heap.size+1) (w.heap.size+1) (enc acc) 41 HGC.out w4 (HA.out.step HX.out.1 HS4.out).1 (by have h1:=(enc_length acc).2;have h2:=HA.out.few;have h3:=HF.out;omega) (Nat.le_of_lt (HA.out.step HX.out.1 HS4.out).2.2.2)))
            |(go_at_call 96;refine HE.out.mono ?_;rintro e w5 ⟨⟨n5,rfl⟩,hd5,hb5⟩;have HD5:=yH (And.intro hd5 hb5);clear hd5 hb5))
          go_roundw
          case rel=>
            obtain⟨s1,s2,s3,s4⟩:=HA.out.step HX.out.1 HS4.out;have hk5:Kept (fun k=>w.heap.size+1≤k) w4 w5:=⟨HD5.out.2.os,HD5.out.2.tape,HD5.out.2.output,HD5.out.2.size,fun k _ hd=>HD5.out.2.block k (by omega)⟩;have hx:=HX.out;refine⟨m,acc++ [41],r,by congr 1,HS4.out.1.kept hk5 (by omega) (by omega),?_,s2.trans hk5 (fun i hi=> .inr (by omega)),hk5.heap s3 (by omega),Nat.lt_of_lt_of_le s4 hk5.size,HA.out.said.trans (HWHY.out),?_,?_⟩
            · rw[enc_append];simp only[enc,List.append_nil];exact HD5.out.1
            · have:=HA.out.few;simp only[List.length_append,List.length_cons,List.length_nil]at this ⊢;omega
            · have:=HA.out.low;simp only[List.length_cons]at this;omega
          case measure=>
            have hx:=HX.out;have hk5:Kept (fun k=>w.heap.size+1≤k) w4 w5:=⟨HD5.out.2.os,HD5.out.2.tape,HD5.out.2.output,HD5.out.2.size,fun k _ hd=>HD5.out.2.block k (by omega)⟩;have e1:=(HS4.out.1.kept hk5 (by omega) (by omega)).lenAt;have e2:=HA.out.rd.lenAt;simp only[e1,e2,List.length_cons];omega
        · have hm0:¬(n:Int)<0:=by omega
          have hm1:¬(n:Int)+1<0:=(by omega);obtain⟨b,hb⟩:∃b,reckons c=b:=⟨_,rfl⟩;have HRK:=yH (fun W=>by have:=reckons_any c (.inr HGC.out) W;rw[hb]at this;exact this)
          by_cases h40:c=40
          · subst h40
            obtain rfl:b=true:=(by rw[←hb];rfl);have HWHY:=yH (arith_go 40 r acc n (n+1) (by simp) hb rfl);clear hb hc hgc
            go_wp2_with (first
              |(go_at_call 72;refine(next_any HS1.out.1).mono ?_;rintro e w2 ⟨rfl,rfl⟩;rw[next_cons])
              |(go_at_call 175;refine(HRK.out _).mono ?_;rintro e w3 ⟨rfl,hb3⟩;have HS3:=yH (HS1.out.below hb3);clear hb3;obtain⟨⟨d0,d1,d2,d3,d4⟩,f0,f1,f2,f3,f4⟩:=zb_facts (HA.out.step HX.out.1 HS3.out).2.2.1)
              |(go_at_call 97;refine(take_any HS3.out.1).mono ?_;rintro e w4 ⟨rfl,hs4⟩;rw[List.tail_cons]at hs4;rw[next_cons];have HS4:=yH (HS3.out.trans hs4);clear hs4;have HE:=yH (writeRune_any (w.heap.size+1) (w.heap.size+1) (enc acc) 40 HGC.out w4 (HA.out.step HX.out.1 HS4.out).1 (by have h1:=(enc_length acc).2;have h2:=HA.out.few;have h3:=HF.out;omega) (Nat.le_of_lt (HA.out.step HX.out.1 HS4.out).2.2.2)))
              |(go_at_call 96;refine HE.out.mono ?_;rintro e w5 ⟨⟨n5,rfl⟩,hd5,hb5⟩;have HD5:=yH (And.intro hd5 hb5);clear hd5 hb5))
            go_roundw
            case rel=>
              obtain⟨s1,s2,s3,s4⟩:=HA.out.step HX.out.1 HS4.out;have hk5:Kept (fun k=>w.heap.size+1≤k) w4 w5:=⟨HD5.out.2.os,HD5.out.2.tape,HD5.out.2.output,HD5.out.2.size,fun k _ hd=>HD5.out.2.block k (by omega)⟩;have hx:=HX.out;refine⟨n+1,acc++ [40],r,by congr 1,HS4.out.1.kept hk5 (by omega) (by omega),?_,s2.trans hk5 (fun i hi=> .inr (by omega)),hk5.heap s3 (by omega),Nat.lt_of_lt_of_le s4 hk5.size,HA.out.said.trans (HWHY.out),?_,?_⟩
              · rw[enc_append];simp only[enc,List.append_nil];exact HD5.out.1
              · have:=HA.out.few;simp only[List.length_append,List.length_cons,List.length_nil]at this ⊢;omega
              · have:=HA.out.low;simp only[List.length_cons]at this;omega
            case measure=>
              have hx:=HX.out;have hk5:Kept (fun k=>w.heap.size+1≤k) w4 w5:=⟨HD5.out.2.os,HD5.out.2.tape,HD5.out.2.output,HD5.out.2.size,fun k _ hd=>HD5.out.2.block k (by omega)⟩;have e1:=(HS4.out.1.kept hk5 (by omega) (by omega)).lenAt;have e2:=HA.out.rd.lenAt;simp only[e1,e2,List.length_cons];omega
          · have e40:((c:Int)==40)=false:=by
              have:¬(c:Int)=40:=by omega
              simpa using this
            have e41:((c:Int)==41)=false:=by
              have:¬(c:Int)=41:=by omega
              simpa using this
            cases b with
            |true=>
              have HWHY:=yH (arith_go c r acc n n (fun e=>hc e.2) hb (by rw[if_neg h40,if_neg hc]));clear hb hc hgc h40
              go_wp2_with (first
                |(go_at_call 72;refine(next_any HS1.out.1).mono ?_;rintro e w2 ⟨rfl,rfl⟩;rw[next_cons])
                |(go_at_call 175;refine(HRK.out _).mono ?_;rintro e w3 ⟨rfl,hb3⟩;have HS3:=yH (HS1.out.below hb3);clear hb3;obtain⟨⟨d0,d1,d2,d3,d4⟩,f0,f1,f2,f3,f4⟩:=zb_facts (HA.out.step HX.out.1 HS3.out).2.2.1)
                |(go_at_call 97;refine(take_any HS3.out.1).mono ?_;rintro e w4 ⟨rfl,hs4⟩;rw[List.tail_cons]at hs4;rw[next_cons];have HS4:=yH (HS3.out.trans hs4);clear hs4;have HE:=yH (writeRune_any (w.heap.size+1) (w.heap.size+1) (enc acc) c HGC.out w4 (HA.out.step HX.out.1 HS4.out).1 (by have h1:=(enc_length acc).2;have h2:=HA.out.few;have h3:=HF.out;omega) (Nat.le_of_lt (HA.out.step HX.out.1 HS4.out).2.2.2)))
                |(go_at_call 96;refine HE.out.mono ?_;rintro e w5 ⟨⟨n5,rfl⟩,hd5,hb5⟩;have HD5:=yH (And.intro hd5 hb5);clear hd5 hb5))
              go_roundw
              case rel=>
                obtain⟨s1,s2,s3,s4⟩:=HA.out.step HX.out.1 HS4.out;have hk5:Kept (fun k=>w.heap.size+1≤k) w4 w5:=⟨HD5.out.2.os,HD5.out.2.tape,HD5.out.2.output,HD5.out.2.size,fun k _ hd=>HD5.out.2.block k (by omega)⟩;have hx:=HX.out;refine⟨n,acc++ [c],r,rfl,HS4.out.1.kept hk5 (by omega) (by omega),?_,s2.trans hk5 (fun i hi=> .inr (by omega)),hk5.heap s3 (by omega),Nat.lt_of_lt_of_le s4 hk5.size,HA.out.said.trans (HWHY.out),?_,?_⟩
                · rw[enc_append];simp only[enc,List.append_nil];exact HD5.out.1
                · have:=HA.out.few;simp only[List.length_append,List.length_cons,List.length_nil]at this ⊢;omega
                · have:=HA.out.low;simp only[List.length_cons]at this;omega
              case measure=>
                have hx:=HX.out;have hk5:Kept (fun k=>w.heap.size+1≤k) w4 w5:=⟨HD5.out.2.os,HD5.out.2.tape,HD5.out.2.output,HD5.out.2.size,fun k _ hd=>HD5.out.2.block k (by omega)⟩;have e1:=(HS4.out.1.kept hk5 (by omega) (by omega)).lenAt;have e2:=HA.out.rd.lenAt;simp only[e1,e2,List.length_cons];omega
            |false=>
              have HWHY:=yH (arith_no c r acc n (fun e=>hc e.2) hb);clear hb hc hgc h40
              go_wp2_with (first
                |(go_at_call 72;refine(next_any HS1.out.1).mono ?_;rintro e w2 ⟨rfl,rfl⟩;rw[next_cons])
                |(go_at_call 175;refine(HRK.out _).mono ?_;rintro e w3 ⟨rfl,hb3⟩;have HS3:=yH (HS1.out.below hb3);clear hb3;obtain⟨⟨d0,d1,d2,d3,d4⟩,f0,f1,f2,f3,f4⟩:=zb_facts (HA.out.step HX.out.1 HS3.out).2.2.1))
              (try simp only[Exit.inBlock,Exit.then])
              refine bodyPost_ret (ret_part rfl (five_put (HA.out.step HX.out.1 HS3.out).2.2.1 _ _ _ _ _) rfl rfl) rfl ?_;rw[←HM.out,HA.out.said,HWHY.out];exact⟨.inl rfl,⟨⟨0,[],[],[],false⟩,rfl⟩,(HA.out.step HX.out.1 HS3.out).2.1.trans (five_kept (D:=fun k=>w.heap.size≤k) (Kept.refl _ _) (.inl (Nat.le_refl _)) _ _ _ _ _) (fun _ h=> .inr h)⟩
end Go.Proofs.YtakceggnadagmaaGreatDoor
