/-
  Proved: contracts of functions, plain facts. Conditions: as each says.
-/
import Derived.Test.YtcpmjkefbjbhpaaGreatDoorSw06
import Derived.Test.YtcpmjkefbjbhpaaGreatDoorSw37
namespace Go.Proofs.YtcpmjkefbjbhpaaGreatDoor
open Go Go.RowKit GlyphMath LexMath TreeMath
theorem meta_byte (b:UInt8):metaN b.toNat=metaB.contains b:=by
  have h:(List.range 256).all (fun n=>metaN n==metaB.contains (UInt8.ofNat n))=true:=(by decide+kernel);have h1:=List.all_eq_true.1 h b.toNat (List.mem_range.2 b.toNat_lt);have h2:UInt8.ofNat b.toNat=b:=(by simp);rw[h2]at h1
  simpa using h1
theorem within_byte (b:UInt8):metaW.contains b=(((b.toNat:Int)==39)||(((b.toNat:Int)==34)||(((b.toNat:Int)==36)||(((b.toNat:Int)==92)||((b.toNat:Int)==125))))):=by
  have h:(List.range 256).all (fun n=>metaW.contains (UInt8.ofNat n)==(((n:Int)==39)||(((n:Int)==34)||(((n:Int)==36)||(((n:Int)==92)||((n:Int)==125))))))=true:=(by decide+kernel);have h1:=List.all_eq_true.1 h b.toNat (List.mem_range.2 b.toNat_lt);have h2:UInt8.ofNat b.toNat=b:=(by simp);rw[h2]at h1
  simpa using h1
theorem get_is (s:ByteArray) (k:Nat) (h:k<s.size):s.get! k=s[k]:=by
  have h1:k<s.data.size:=h;show s.data[k]! =_;rw[getElem!_pos s.data k h1];rfl
theorem empty_pos {α:Type} (l:List α):decide ((0:Int)<(l.length:Int))= !l.isEmpty:=by
  cases l with
  |nil=>rfl
  |cons a r=>exact decide_eq_true (by rw[List.length_cons];omega)
set_option maxHeartbeats 1000000 in
set_option maxRecDepth 100000 in
theorem trlit_any (p:Pt) (up:Option Addr) (uc:Nat) (wi:Bool) (w:World) (hs:p.text.length≤1048576) (hT:Tabs w):
    Calls Tryz.prog 78 #[partV p (.slice up p.word.length uc),.bool wi] w fun e w'=>e= .returned (.bool (p.op.isEmpty&&(p.word.isEmpty&&litT wi p)))∧Below w.heap.size w w':=by
  obtain⟨kd,tx,op,wd,q⟩:=p;have HV:=yH (fun W (hW:Tabs W)=>rvalid_any (T tx) W (by show tx.length≤_;simp only at hs;omega) hW);have HT:=yH (fun o=>hT.below (below_one w o));have HB:=yH (fun o=>below_one w o);obtain⟨R,hR⟩:∃R,(op.isEmpty&&(wd.isEmpty&&litT wi ⟨kd,tx,op,wd,q⟩))=R:=⟨_,rfl⟩;have HL:=yH (show R=(op.isEmpty&&(wd.isEmpty&&(isText (T tx)&&(q||(!tx.isEmpty&& !anyIn tx (if wi then metaW else metaB))))))from by rw[←hR];rfl);show Calls _ _ #[.agg #[.int .i64 kd,.string (T tx),.string (T op),.slice up wd.length uc,.bool q],_] _ fun e w'=>e= .returned (.bool (op.isEmpty&&(wd.isEmpty&&litT wi ⟨kd,tx,op,wd,q⟩)))∧_;rw[hR];have hemp:(T op).toList.isEmpty=op.isEmpty:=(by rw[Lib.toList_data]);have hpos:=empty_pos wd;have HTX:=yH (show(T tx).data.toList=tx from rfl);have hsz:(T tx).size≤1048576:=hs;have htx:(T tx).toList.isEmpty=tx.isEmpty:=(by rw[Lib.toList_data]);obtain⟨A,hA⟩:∃A,isText (T tx)=A:=⟨_,rfl⟩;obtain⟨E,hE⟩:∃E,op.isEmpty=E:=⟨_,rfl⟩;obtain⟨F,hF⟩:∃F,wd.isEmpty=F:=⟨_,rfl⟩;obtain⟨L,hL⟩:∃L,wd.length=L:=⟨_,rfl⟩;rw[hL]at hpos ⊢;rw[hE,hF,hA]at HL;rw[hE]at hemp;rw[hF]at hpos;rw[hA]at HV
  generalize place (T tx)=Q at HV
  generalize T op=s2 at hemp ⊢
  clear hR hA hE hF hL hs hT
  cases A with
  |false=>
    have HR:=yH (show R=false by rw[HL.out];cases E<;>cases F<;>rfl);rw[HR.out];clear HR HL hemp hpos htx hsz HTX;go_enter Tryz.func78,Tryz.ntmps78
    go_wp2_with (go_at_call 40;refine(HV.out _ (HT.out _)).mono ?_;rintro e w1 ⟨rfl,hb⟩;have HB1:=yH ((HB.out _).trans (hb.mono (HB.out _).size));clear hb)
    go_ret;exact⟨rfl,HB1.out⟩
  |true=>
    cases E with
    |false=>
      have HR:=yH (show R=false by rw[HL.out];rfl);rw[HR.out];clear HR HL hpos htx hsz HTX;go_enter Tryz.func78,Tryz.ntmps78
      go_wp2_with (go_at_call 40;refine(HV.out _ (HT.out _)).mono ?_;rintro e w1 ⟨rfl,hb⟩;obtain⟨c0,c1,c2,c3,c4⟩:=(PC.new w kd _ _ (.slice up L uc) q 55).below hb;have HB1:=yH ((HB.out _).trans (hb.mono (HB.out _).size));clear hb)
      go_ret;exact⟨rfl,HB1.out⟩
    |true=>
      cases F with
      |false=>
        have HR:=yH (show R=false by rw[HL.out];rfl);rw[HR.out];have hl:(0:Int)<(L:Int):=of_decide_eq_true hpos;clear HR HL hpos htx hsz HTX;go_enter Tryz.func78,Tryz.ntmps78
        go_wp2_with (go_at_call 40;refine(HV.out _ (HT.out _)).mono ?_;rintro e w1 ⟨rfl,hb⟩;obtain⟨c0,c1,c2,c3,c4⟩:=(PC.new w kd _ _ (.slice up L uc) q 55).below hb;have HB1:=yH ((HB.out _).trans (hb.mono (HB.out _).size));clear hb)
        go_ret;exact⟨rfl,HB1.out⟩
      |true=>
        have hl0:¬(0:Int)<(L:Int):=of_decide_eq_false hpos;have hl:¬0<L:=(by omega);have hd:decide (0<L)=false:=decide_eq_false hl;clear hl0
        cases q with
        |true=>
          have HR:=yH (show R=true by rw[HL.out];rfl);rw[HR.out];clear HR HL hpos htx hsz HTX;go_enter Tryz.func78,Tryz.ntmps78
          go_wp2_with (go_at_call 40;refine(HV.out _ (HT.out _)).mono ?_;rintro e w1 ⟨rfl,hb⟩;obtain⟨c0,c1,c2,c3,c4⟩:=(PC.new w kd _ _ (.slice up L uc) true 55).below hb;have HB1:=yH ((HB.out _).trans (hb.mono (HB.out _).size));clear hb)
          go_ret;exact⟨rfl,HB1.out⟩
        |false=>
          have HR:=yH (show R=(!tx.isEmpty&& !anyIn tx (if wi then metaW else metaB))from HL.out);obtain⟨s,hss⟩:∃s,T tx=s:=⟨_,rfl⟩;rw[hss]at HV HTX hsz htx ⊢;clear HL hpos hss
          cases wi with
          |true=>
            go_enter Tryz.func78,Tryz.ntmps78
            go_wp2_with (go_at_call 40;refine(HV.out _ (HT.out _)).mono ?_;rintro e w1 ⟨rfl,hb⟩;obtain⟨c0,c1,c2,c3,c4⟩:=(PC.new w kd s s2 (.slice up L uc) false 55).below hb;have HB1:=yH ((HB.out _).trans (hb.mono (HB.out _).size));clear hb)
            go_loopw [7] (fun i wr=> ∃k:Nat,i= .int .i64 (k:Int)∧k≤s.size∧R=(!tx.isEmpty&& !anyIn (tx.drop k) metaW)∧wr=w1) (fun i _=>s.size-(intOf i).toNat)
            case atStart=>exact⟨0,rfl,Nat.zero_le _,by rw[List.drop_zero];exact HR.out,rfl⟩
            case round=>
              obtain⟨k,rfl,hk,hr,rfl⟩:=hrel
              by_cases hlt:k<s.size
              · have hj:(k:Int)<(s.size:Int):=by omega
                have hg:tx.drop k=s.get! k::tx.drop (k+1):=(by rw[←HTX.out];exact get_drop s k hlt);rw[hg,any_cons,get_is s k hlt]at hr;have HKK:=yH hlt;obtain⟨M,hM⟩:∃M,metaW.contains (s[k]'hlt)=M:=⟨_,rfl⟩;rw[hM]at hr;have hw:=within_byte (s[k]'hlt);rw[hM]at hw
                have HF:=yH (show(((s[k]'hlt).toNat:Int)=39∨((s[k]'hlt).toNat:Int)=34∨((s[k]'hlt).toNat:Int)=36∨((s[k]'hlt).toNat:Int)=92∨((s[k]'hlt).toNat:Int)=125)→R=false from fun h=>by
                  have e:M=true:=by rw[hw];simpa using h
                  rw[hr,e];simp)
                have HN:=yH (show ¬(((s[k]'hlt).toNat:Int)=39∨((s[k]'hlt).toNat:Int)=34∨((s[k]'hlt).toNat:Int)=36∨((s[k]'hlt).toNat:Int)=92∨((s[k]'hlt).toNat:Int)=125)→R=(!tx.isEmpty&& !anyIn (tx.drop (k+1)) metaW)from fun h=>by
                  have e:M=false:=by rw[hw];simpa using h
                  rw[hr,e,Bool.false_or])
                clear hM hw;clear hr hg hk HR;go_wp2_with fail
                iterate 4
                  · go_ret
                    exact⟨ret_bool (HF.out (by omega)).symm,HB1.out⟩
                · go_ret
                  exact⟨ret_bool (HF.out (by simp_all)).symm,HB1.out⟩
                go_roundw
                case rel=>exact⟨k+1,by go_num,HKK.out,HN.out (by simp_all),trivial⟩
                case measure=>have:=HKK.out;simp[intOf];omega
              · have hj:¬(k:Int)<(s.size:Int):=by omega
                have HE:=yH (show R= !tx.isEmpty from by
                  rw[hr,←HTX.out,drop_all s k hlt]
                  exact Bool.and_true _)
                clear hr hlt hk HR;obtain⟨X,hX⟩:∃X,tx.isEmpty=X:=⟨_,rfl⟩;rw[hX]at htx HE
                cases X
                all_goals
                  go_wp2_with fail;go_ret;exact⟨ret_bool HE.out.symm,HB1.out⟩
          |false=>
            go_enter Tryz.func78,Tryz.ntmps78
            go_wp2_with (go_at_call 40;refine(HV.out _ (HT.out _)).mono ?_;rintro e w1 ⟨rfl,hb⟩;obtain⟨c0,c1,c2,c3,c4⟩:=(PC.new w kd s s2 (.slice up L uc) false 55).below hb;have HB1:=yH ((HB.out _).trans (hb.mono (HB.out _).size));clear hb)
            go_loopw [7] (fun i wr=> ∃k:Nat,i= .int .i64 (k:Int)∧k≤s.size∧R=(!tx.isEmpty&& !anyIn (tx.drop k) metaB)∧wr=w1) (fun i _=>s.size-(intOf i).toNat)
            case atStart=>exact⟨0,rfl,Nat.zero_le _,by rw[List.drop_zero];exact HR.out,rfl⟩
            case round=>
              obtain⟨k,rfl,hk,hr,rfl⟩:=hrel
              by_cases hlt:k<s.size
              · have hj:(k:Int)<(s.size:Int):=by omega
                have hg:tx.drop k=s.get! k::tx.drop (k+1):=(by rw[←HTX.out];exact get_drop s k hlt);rw[hg,any_cons,get_is s k hlt]at hr;have HKK:=yH hlt;obtain⟨M,hM⟩:∃M,metaB.contains (s[k]'hlt)=M:=⟨_,rfl⟩;rw[hM]at hr
                have HM:=yH (show Calls Tryz.prog 91 #[.int .u8 ((s[k]'hlt).toNat:Int)] wr fun e w'=>e= .returned (.bool M)∧wr=w' from by
                  have:=rmeta_any (s[k]'hlt).toNat wr
                  rwa [meta_byte,hM]at this)
                have HRR:=yH hr;clear hr hg hk HR hM
                cases M
                · go_wp2_with (go_at_call 91;refine HM.out.mono ?_;rintro e w2 ⟨rfl,rfl⟩)
                  go_roundw
                  case rel=>exact⟨k+1,by go_num,HKK.out,HRR.out,trivial⟩
                  case measure=>have:=HKK.out;simp[intOf];omega
                · go_wp2_with (go_at_call 91;refine HM.out.mono ?_;rintro e w2 ⟨rfl,rfl⟩)
                  go_ret;exact⟨ret_bool (by rw[HRR.out];simp),HB1.out⟩
              · have hj:¬(k:Int)<(s.size:Int):=by omega
                have HE:=yH (show R= !tx.isEmpty from by
                  rw[hr,←HTX.out,drop_all s k hlt]
                  exact Bool.and_true _)
                clear hr hlt hk HR;obtain⟨X,hX⟩:∃X,tx.isEmpty=X:=⟨_,rfl⟩;rw[hX]at htx HE
                cases X
                all_goals
                  go_wp2_with fail;go_ret;exact⟨ret_bool HE.out.symm,HB1.out⟩
end Go.Proofs.YtcpmjkefbjbhpaaGreatDoor
namespace Go.Proofs.YtcpmjkefbjbhpaaGreatDoor
open Go Go.RowKit GlyphMath LexMath
def LexAt (w:World) (X:Nat) (s:ByteArray) (xs:List Nat):Prop:=∃i:Nat,Lx w X s (i:Int) 0∧Pos s i xs
def LexErr (w:World) (X:Nat) (s:ByteArray) (c:Nat):Prop:=(c=2∨c=3)∧∃i,Lx w X s i (c:Int)
theorem LexAt.kept {D:Nat→Prop} {w w':World} {X:Nat} {s:ByteArray} {xs:List Nat} (h:LexAt w X s xs) (hk:Kept D w w') (hX:∀k,k≤X→¬D k):LexAt w' X s xs:=by
  obtain⟨i,h1,h2⟩:=h;exact⟨i,h1.kept hk hX,h2⟩
theorem LexErr.kept {D:Nat→Prop} {w w':World} {X:Nat} {s:ByteArray} {c:Nat} (h:LexErr w X s c) (hk:Kept D w w') (hX:∀k,k≤X→¬D k):LexErr w' X s c:=by
  obtain⟨h0,i,h1⟩:=h;exact⟨h0,i,h1.kept hk hX⟩
theorem LexErr.ne {w:World} {X:Nat} {s:ByteArray} {c:Nat} (h:LexErr w X s c):((c:Int) !=0)=true∧((c:Int)==0)=false:=by
  rcases h.1 with rfl|rfl<;>exact⟨rfl,rfl⟩
theorem LexAt.lt {w:World} {X:Nat} {s:ByteArray} {xs:List Nat} (h:LexAt w X s xs):X<w.heap.size:=by
  obtain⟨i,h, -⟩:=h;exact h.lt
def toEnd (w:World) (X n:Nat):Nat:=match w.cell? ⟨X,1,none⟩with
  |some (.int _ i)=>n-i.toNat
  |_=>0
theorem Lx.toEnd {w:World} {X n:Nat} {s:ByteArray} {i e:Int} (h:Lx w X s i e):toEnd w X n=n-i.toNat:=by
  unfold Go.Proofs.YtcpmjkefbjbhpaaGreatDoor.toEnd;rw[h.c1]
def Run (S:Nat→Bool) (xs ys:List Nat):Prop:=∃done,xs=done++ys∧got S xs=done++got S ys∧left S xs=left S ys
theorem Run.refl (S:Nat→Bool) (xs:List Nat):Run S xs xs:=⟨[],rfl,rfl,rfl⟩
theorem Run.step {S:Nat→Bool} {xs r:List Nat} {c:Nat} (h:Run S xs (c::r)) (hc:S c=false):Run S xs r:=by
  obtain⟨d,h1,h2,h3⟩:=h;refine⟨d++ [c],by rw[h1];simp,?_,?_⟩
  · rw[h2,got,hc];simp
  · rw[h3,left,hc];rfl
theorem Run.stop {S:Nat→Bool} {xs ys:List Nat} (h:Run S xs ys) (hs:ys= []∨S (next ys)=true):got S xs++ys=xs∧left S xs=ys:=by
  obtain⟨d,h1,h2,h3⟩:=h
  have e:got S ys= []∧left S ys=ys:=by
    cases ys with
    |nil=>exact⟨rfl,rfl⟩
    |cons c r=>
      have hc:S c=true:=hs.elim (fun e=>by cases e) id;unfold got left;rw[hc];exact⟨rfl,rfl⟩
  rw[h2,h3,e.1,e.2,List.append_nil];exact⟨h1.symm,rfl⟩
theorem enc_low:∀ {l:List Nat},(∀x∈l,x<128)→(enc l).length=l.length
  | [],_=>rfl
  |c::r,h=>by
    rw[enc,List.length_append,List.length_cons,enc_low (fun x hx=>h x (by simp[hx]))];unfold eb;rw[if_pos (h c (by simp))];simp;omega
theorem more_low {x:Nat} (h:moreR (x:Int)=true):x<128:=by
  apply Classical.byContradiction;intro hx;rw[moreR_high (by omega)]at h
  cases h
theorem got_more (xs:List Nat):∀x∈got (fun r=> !moreR (r:Int)) xs,moreR (x:Int)=true:=by
  induction xs with
  |nil=>intro x hx;cases hx
  |cons c r ih=>
    intro x hx;unfold got at hx
    cases hc:moreR (c:Int)with
    |true=>
      simp only[hc]at hx
      rcases List.mem_cons.1 hx with rfl|hx
      · exact hc
      · exact ih x hx
    |false=>simp only[hc]at hx;cases hx
def StrEnd (w w':World) (e:Ending) (X:Nat) (s:ByteArray) (m:Res (List Nat)):Prop:=
  match m with
  | .ok (l,r)=>e= .returned (txt (enc l))∧LexAt w' X s r∧Kept (fun k=>k=X) w w'
  | .error c=>(∃t:ByteArray,e= .returned (.string t))∧LexErr w' X s c∧Kept (fun k=>k=X) w w'
def nameM (xs:List Nat):Res (List Nat):=if (got (fun r=> !moreR (r:Int)) xs).length≤12 then .ok (got (fun r=> !moreR (r:Int)) xs,left (fun r=> !moreR (r:Int)) xs)else .error 2
theorem lname_err {w:World} {X:Nat} {s:ByteArray} {i c:Int} (h:Lx w X s i c) (hc:(c !=0)=true):
    Calls Tryz.prog 163 #[.pointer (some ⟨X,0,none⟩)] w fun e w'=>e= .returned (.string ⟨#[]⟩)∧∃m,w'=w.drewN m:=by
  have c1:=h.c1;have HA:=yH (rat_err h hc 0);have hf:firstR 0=false:=(by decide);clear h hc;go_enter Tryz.func163,Tryz.ntmps163
  go_wp2_with (first
    |(go_at_call 85;refine HA.out.mono ?_;rintro e w1 ⟨rfl,m,rfl⟩)
    |(go_at_call 96;refine(rfirst_any 0 _).mono ?_;rintro e w1 ⟨rfl,rfl⟩;rw[hf]))
  go_ret;exact⟨rfl,_,rfl⟩
theorem lname_none {w:World} {X:Nat} {s:ByteArray} {xs:List Nat} (h:LexAt w X s xs) (hs:s.size≤2000) (hf:firstR (next xs:Int)=false):
    Calls Tryz.prog 163 #[.pointer (some ⟨X,0,none⟩)] w fun e w'=>e= .returned (.string ⟨#[]⟩)∧∃m,w'=w.drewN m:=by
  obtain⟨i,h,hp⟩:=h;have c1:=h.c1;have HA:=yH (rat_any h 0 (by have:=hp.le;omega));rw[Nat.add_zero,hp.fbn]at HA;rw[←firstR_fbn hp.good]at hf;have hc:=conv_u8 _ (fbn_lt hp.good);obtain⟨b,hb⟩:∃b,fbn xs=b:=⟨_,rfl⟩;rw[hb]at HA hf hc;clear h hp hb hs;go_enter Tryz.func163,Tryz.ntmps163
  go_wp2_with (first
    |(go_at_call 85;refine HA.out.mono ?_;rintro e w1 ⟨rfl,m,rfl⟩)
    |(go_at_call 96;refine(rfirst_any (b:Int) _).mono ?_;rintro e w1 ⟨rfl,rfl⟩;rw[hf]))
  go_ret;exact⟨rfl,_,rfl⟩
set_option maxHeartbeats 1000000 in
theorem lname_any {w:World} {X:Nat} {s:ByteArray} {xs:List Nat} (h:LexAt w X s xs) (hs:s.size≤2000) (hf:firstR (next xs:Int)=true):
    Calls Tryz.prog 163 #[.pointer (some ⟨X,0,none⟩)] w fun e w'=>StrEnd w w' e X s (nameM xs):=by
  obtain⟨i,h,hp⟩:=h;have c1:=h.c1;have HA:=yH (rat_any h 0 (by have:=hp.le;omega));rw[Nat.add_zero,hp.fbn]at HA;rw[←firstR_fbn hp.good]at hf;have hc:=conv_u8 _ (fbn_lt hp.good);obtain⟨b,hb⟩:∃b,fbn xs=b:=⟨_,rfl⟩;rw[hb]at HA hf hc;have HH:=yH h;have HP:=yH hp;have HS:=yH hs;clear h hp hb hs;go_enter Tryz.func163,Tryz.ntmps163
  go_wp2_with (first
    |(go_at_call 85;refine HA.out.mono ?_;rintro e w1 ⟨rfl,m,rfl⟩)
    |(go_at_call 96;refine(rfirst_any (b:Int) _).mono ?_;rintro e w1 ⟨rfl,rfl⟩;rw[hf]))
  go_loopw [] (fun wr=> ∃(j:Nat) (ys:List Nat),Lx wr X s (j:Int) 0∧Pos s j ys∧Run (fun r=> !moreR (r:Int)) xs ys∧Kept (fun k=>k=X) w wr) (fun wr=>toEnd wr X s.size)
  case atStart=>exact⟨i,xs,HH.out.drewN _,HP.out,Run.refl _ _,(Kept.refl _ _).drewN _⟩
  case round=>
    obtain⟨j,ys,hl,hpy,hrun,hk⟩:=hrel;have HAT:=yH (rat_any hl 0 (by have:=hpy.le;have:=HS.out;omega));rw[Nat.add_zero,hpy.fbn]at HAT;have hcy:=conv_u8 _ (fbn_lt hpy.good);have c1:=hl.c1;have f1:=hl.fz 1;have c0:=hl.c0;have hmf:=moreR_fbn hpy.good;obtain⟨d,hd⟩:∃d,fbn ys=d:=⟨_,rfl⟩;rw[hd]at HAT hcy hmf;have hjs:(j:Int)≤2000:=(by have:=hpy.le;have:=HS.out;omega);have HJ:=yH (And.intro hl (And.intro hpy (And.intro hrun hk)));clear hl hpy hrun hk hd
    cases hM:moreR (d:Int)with
    |true=>
      rw[hM]at hmf;have HMF:=yH hmf.symm;clear hmf
      go_wp2_with (first
        |(go_at_call 85;refine HAT.out.mono ?_;rintro e w1 ⟨rfl,m1,rfl⟩)
        |(go_at_call 95;refine(rmore_any (d:Int) _).mono ?_;rintro e w1 ⟨rfl,rfl⟩;rw[hM]))
      obtain⟨hl,hpy,hrun,hk⟩:=HJ.out
      cases ys with
      |nil=>exact absurd HMF.out (by decide)
      |cons c r=>
        have hm:moreR (c:Int)=true:=HMF.out;have hp2:=hpy.fbn1 (more_low hm);have hlt:j<s.size:=(by have:=hp2.le;omega);have hl2:Lx ((wr.drewN m1).setCell ⟨X,1,none⟩ (.int .i64 ((j:Int)+1))) X s ((j+1:Nat):Int) 0:=(hl.drewN m1).put1 _;refine⟨⟨j+1,r,hl2,hp2,hrun.step (by simp[hm]),Kept.setCell (D:=fun k=>k=X) (hk.drewN m1) (.inl rfl) _⟩,?_⟩;rw[hl2.toEnd,hl.toEnd];simp only[Int.toNat_natCast];omega
    |false=>
      rw[hM]at hmf;obtain⟨-,hpy,hrun, -⟩:=HJ.out;obtain⟨e1,e2⟩:=hrun.stop (.inr (by simp[←hmf]));have hlow:=enc_low (l:=got (fun r=> !moreR (r:Int)) xs) (fun x hx=>more_low (got_more xs x hx));have hex:=Pos.extract (s:=s) (i:=i) (p:=got (fun r=> !moreR (r:Int)) xs) (r:=ys) (by rw[e1];exact HP.out);have hl1:=HP.out.len;rw[←e1,enc_append,List.length_append]at hl1;have hl2:=hpy.len;obtain⟨G,hG⟩:∃G,got (fun r=> !moreR (r:Int)) xs=G:=⟨_,rfl⟩;rw[hG]at hlow hex hl1;have hij:(i:Int)≤(j:Int):=(by omega);have hjn:(j:Int)≤(s.size:Int):=(by omega);have hi0:(0:Int)≤(i:Int):=(by omega)
      have hsl:∀W,(Instr.slice 9 (.string s) (some (.int .i64 (i:Int))) (some (.int .i64 (j:Int))) none).run Tryz.prog W= .ok (txt (enc G)) W:=fun W=>by
        rw[run_slice_string W 9 s .i64 .i64 _ _ Tryz.underlying9 hi0 hij hjn,show(i:Int).toNat=i by omega,show(j:Int).toNat=i+(enc G).length by omega,hex];rfl
      obtain⟨gs,hgs⟩:∃gs:ByteArray,txt (enc G)= .string gs:=⟨_,rfl⟩;rw[hgs]at hsl;have hd:IntKind.i64.wrap ((j:Int)-(i:Int))=(j:Int)-(i:Int):=IntWalk.i64_in _ ⟨by omega,by omega⟩
      by_cases hlen:G.length≤12
      · have hM':=yH (show nameM xs= .ok (G,ys) by unfold nameM;rw[hG,if_pos hlen,e2])
        have ht:decide ((12:Int)<(j:Int)-(i:Int))=false:=decide_eq_false (by omega);have HGS:=yH hgs;clear e1 e2 hlow hex hl1 hl2 hij hjn hi0 hmf hpy hrun hgs hlen hG
        go_wp2_with (first
          |(go_at_call 85;refine HAT.out.mono ?_;rintro e w1 ⟨rfl,m1,rfl⟩)
          |(go_at_call 95;refine(rmore_any (d:Int) _).mono ?_;rintro e w1 ⟨rfl,rfl⟩;rw[hM]))
        go_quiet (fail)
        go_wp2_with fail;go_ret;rw[hM'.out];exact⟨by rw[HGS.out];rfl,⟨j,(HJ.out.1.drewN _).drewN _,HJ.out.2.1⟩,(HJ.out.2.2.2.drewN _).drewN _⟩
      · have hM':=yH (show nameM xs= .error 2 by unfold nameM;rw[hG,if_neg hlen])
        have ht:decide ((12:Int)<(j:Int)-(i:Int))=true:=decide_eq_true (by omega);have HF:=yH (fun m=>rfail_no (HJ.out.1.drewN m) 2);clear e1 e2 hlow hex hl1 hl2 hij hjn hi0 hmf hpy hrun hgs hlen hG
        go_wp2_with (first
          |(go_at_call 85;refine HAT.out.mono ?_;rintro e w1 ⟨rfl,m1,rfl⟩)
          |(go_at_call 95;refine(rmore_any (d:Int) _).mono ?_;rintro e w1 ⟨rfl,rfl⟩;rw[hM])
          |(go_at_call 43;refine(HF.out _).mono ?_;rintro e w2 ⟨rfl,hl2,hk2⟩;have d0:=hl2.c0;have d1:=hl2.c1;have H2:=yH (And.intro hl2 hk2);clear hl2 hk2))
        go_quiet (fail)
        go_wp2_with fail;go_ret;rw[hM'.out];exact⟨⟨_,rfl⟩,⟨.inl rfl,_,H2.out.1.drewN _⟩,((HJ.out.2.2.2.drewN _).on H2.out.2).drewN _⟩
theorem rparam_err {w:World} {X:Nat} {s:ByteArray} {i c:Int} (h:Lx w X s i c) (hc:(c !=0)=true):
    Calls Tryz.prog 131 #[.pointer (some ⟨X,0,none⟩)] w fun e w'=>e= .returned (.string ⟨#[]⟩)∧∃m,w'=w.drewN m:=by
  have HA:=yH (rat_err h hc 0);have ho:other 0=false:=(by decide);have HN:=yH (fun m=>lname_err (h.drewN m) hc);clear h hc;go_enter Tryz.func131,Tryz.ntmps131
  go_wp2_with (first
    |(go_at_call 85;refine HA.out.mono ?_;rintro e w1 ⟨rfl,m,rfl⟩)
    |(go_at_call 130;refine(rspecial_any 0 _).mono ?_;rintro e w1 ⟨rfl,rfl⟩;rw[ho])
    |(go_at_call 163;refine(HN.out _).mono ?_;rintro e w1 ⟨rfl,m2,rfl⟩))
  go_ret;exact⟨rfl,_,rfl⟩
theorem rparam_none {w:World} {X:Nat} {s:ByteArray} {xs:List Nat} (h:LexAt w X s xs) (hs:s.size≤2000) (hf:firstR (next xs:Int)=false) (ho:other (next xs)=false):
    Calls Tryz.prog 131 #[.pointer (some ⟨X,0,none⟩)] w fun e w'=>e= .returned (.string ⟨#[]⟩)∧∃m,w'=w.drewN m:=by
  obtain⟨i,hl,hp⟩:=h;have HA:=yH (rat_any hl 0 (by have:=hp.le;omega));rw[Nat.add_zero,hp.fbn]at HA;rw[←other_fbn hp.good]at ho;have HN:=yH (fun m=>lname_none (show LexAt (w.drewN m) X s xs from⟨i,hl.drewN m,hp⟩) hs hf);obtain⟨b,hb⟩:∃b,fbn xs=b:=⟨_,rfl⟩;rw[hb]at HA ho;clear hl hp hb hs hf;go_enter Tryz.func131,Tryz.ntmps131
  go_wp2_with (first
    |(go_at_call 85;refine HA.out.mono ?_;rintro e w1 ⟨rfl,m,rfl⟩)
    |(go_at_call 130;refine(rspecial_any b _).mono ?_;rintro e w1 ⟨rfl,rfl⟩;rw[ho])
    |(go_at_call 163;refine(HN.out _).mono ?_;rintro e w1 ⟨rfl,m2,rfl⟩))
  go_ret;exact⟨rfl,_,rfl⟩
theorem param_name {xs:List Nat} (hf:firstR (next xs:Int)=true) (ho:other (next xs)=false):parameterM xs=nameM xs:=by
  have hne:nameL (got (fun r=> !moreR (r:Int)) xs)=decide ((got (fun r=> !moreR (r:Int)) xs).length≤12):=by
    have hall:=got_more xs
    cases xs with
    |nil=>exact absurd hf (by decide)
    |cons c r=>
      have hm:moreR (c:Int)=true:=(by unfold moreR;rw[show firstR (c:Int)=true from hf];rfl);have e:got (fun r=> !moreR (r:Int)) (c::r)=c::got (fun r=> !moreR (r:Int)) r:=(by rw[got];simp[hm]);rw[e]at hall ⊢;show(firstR (c:Int)&&(c::got (fun r=> !moreR (r:Int)) r).all (fun (x:Nat)=>moreR x)&&decide _)=_;rw[show firstR (c:Int)=true from hf,List.all_eq_true.2 hall];rfl
  unfold parameterM nameM;rw[ho,hne]
  by_cases h:(got (fun r=> !moreR (r:Int)) xs).length≤12
  · rw[if_pos h,decide_eq_true h];rfl
  · rw[if_neg h,decide_eq_false h];rfl
theorem rparam_name {w:World} {X:Nat} {s:ByteArray} {xs:List Nat} (h:LexAt w X s xs) (hs:s.size≤2000) (hf:firstR (next xs:Int)=true) (ho:other (next xs)=false):
    Calls Tryz.prog 131 #[.pointer (some ⟨X,0,none⟩)] w fun e w'=>StrEnd w w' e X s (parameterM xs):=by
  rw[param_name hf ho];obtain⟨i,hl,hp⟩:=h;have HA:=yH (rat_any hl 0 (by have:=hp.le;omega));rw[Nat.add_zero,hp.fbn]at HA;rw[←other_fbn hp.good]at ho;have HN:=yH (fun m=>lname_any (show LexAt (w.drewN m) X s xs from⟨i,hl.drewN m,hp⟩) hs hf);obtain⟨b,hb⟩:∃b,fbn xs=b:=⟨_,rfl⟩;rw[hb]at HA ho;obtain⟨M,hM⟩:∃M,nameM xs=M:=⟨_,rfl⟩;rw[hM]at HN ⊢;clear hl hp hb hs hf hM;go_enter Tryz.func131,Tryz.ntmps131
  go_wp2_with (first
    |(go_at_call 85;refine HA.out.mono ?_;rintro e w1 ⟨rfl,m,rfl⟩)
    |(go_at_call 130;refine(rspecial_any b _).mono ?_;rintro e w1 ⟨rfl,rfl⟩;rw[ho]))
  refine(HN.out _).mono ?_;intro e w2 hE
  cases M with
  |error cc=>
    obtain⟨⟨t,rfl⟩,hle,hk⟩:=hE;have H2:=yH (And.intro hle hk);clear hle hk;go_wp2_with fail;go_ret;exact⟨⟨_,rfl⟩,H2.out.1,((Kept.refl _ w).drewN _).on H2.out.2⟩
  |ok a=>
    obtain⟨l,r⟩:=a;obtain⟨rfl,hle,hk⟩:=hE;have H2:=yH (And.intro hle hk);clear hle hk;go_wp2_with fail;go_ret;exact⟨rfl,H2.out.1,((Kept.refl _ w).drewN _).on H2.out.2⟩
theorem rparam_other {w:World} {X:Nat} {s:ByteArray} {xs:List Nat} (h:LexAt w X s xs) (hs:s.size≤2000) (ho:other (next xs)=true):
    Calls Tryz.prog 131 #[.pointer (some ⟨X,0,none⟩)] w fun e w'=>StrEnd w w' e X s (parameterM xs):=by
  have hM:parameterM xs= .ok ([next xs],xs.tail):=(by unfold parameterM;rw[if_pos ho]);rw[hM];obtain⟨i,hl,hp⟩:=h
  cases xs with
  |nil=>exact absurd ho (by decide)
  |cons c r=>
    have hlow:c<128:=by
      apply Classical.byContradiction;intro hx;rw[show next (c::r)=c from rfl,other_high (by omega)]at ho
      cases ho
    have HA:=yH (rat_any hl 0 (by have:=hp.le;omega));rw[Nat.add_zero,hp.fbn]at HA;rw[←other_fbn hp.good]at ho;have hp2:=hp.fbn1 hlow;have hex:=Pos.extract (p:= [c]) hp;rw[enc_low (by simpa using hlow)]at hex;have c1:=hl.c1;have c0:=hl.c0;have f1:=hl.fz 1;obtain⟨b,hb⟩:∃b,fbn (c::r)=b:=⟨_,rfl⟩;rw[hb]at HA ho;have hi0:(0:Int)≤(i:Int):=(by omega);have hi1:(i:Int)+1≤(s.size:Int):=(by have:=hp2.le;omega);have hs2:(s.size:Int)≤2000:=(by omega);obtain⟨gs,hgs⟩:∃gs:ByteArray,txt (enc [c])= .string gs:=⟨_,rfl⟩
    have hsl:∀W,(Instr.slice 9 (.string s) (some (.int .i64 (i:Int))) (some (.int .i64 ((i:Int)+1))) none).run Tryz.prog W= .ok (.string gs) W:=fun W=>by
      rw[run_slice_string W 9 s .i64 .i64 _ _ Tryz.underlying9 hi0 (by omega) hi1,show(i:Int).toNat=i by omega,show((i:Int)+1).toNat=i+ [c].length by simp only[List.length_singleton];omega,hex,←hgs];rfl
    have e1:IntKind.i64.wrap ((i:Int)+1)=(i:Int)+1:=IntWalk.i64_in _ ⟨by omega,by omega⟩;have e2:IntKind.i64.wrap (i:Int)=(i:Int):=IntWalk.i64_in _ ⟨by omega,by omega⟩;have HL:=yH hl;have HP:=yH hp2;have HGS:=yH hgs;clear hl hp hp2 hb hs hM hex hlow hgs;go_enter Tryz.func131,Tryz.ntmps131
    go_wp2_with (first
      |(go_at_call 85;refine HA.out.mono ?_;rintro e w1 ⟨rfl,m,rfl⟩)
      |(go_at_call 130;refine(rspecial_any b _).mono ?_;rintro e w1 ⟨rfl,rfl⟩;rw[ho]))
    go_quiet (fail)
    go_wp2_with fail;go_ret;exact⟨by show _=Ending.returned (txt (enc [c]));rw[HGS.out];rfl,⟨i+1,((HL.out.drewN _).put1 _).drewN _,HP.out⟩,(Kept.setCell (D:=fun k=>k=X) ((Kept.refl _ w).drewN _) (.inl rfl) _).drewN _⟩
end Go.Proofs.YtcpmjkefbjbhpaaGreatDoor
