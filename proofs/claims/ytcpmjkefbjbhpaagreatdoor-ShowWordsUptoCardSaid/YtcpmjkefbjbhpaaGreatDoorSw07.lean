/-
  Proved: contracts of functions, plain facts. Conditions: as each says.
-/
import Derived.Test.YtcpmjkefbjbhpaaGreatDoorSw06
import Derived.Test.YtcpmjkefbjbhpaaGreatDoorSw01
namespace Go.Proofs.YtcpmjkefbjbhpaaGreatDoor
open Go Go.RowKit GlyphMath LexMath TreeMath
def RowDo (k d:Nat):Prop:=∀(ps:List Pt) (v:Value) (w:World),PsAt w v ps→Small ps→
  Calls Tryz.prog 81 #[v,.int .i64 (d:Int)] w fun e w'=>e= .returned (.bool (rowT k ps))∧Below w.heap.size w w'
theorem empty_len {α:Type} (l:List α):((l.length:Int)==0)=l.isEmpty:=by
  cases l with
  |nil=>rfl
  |cons a r=>
    show(((a::r).length:Int)==0)=false;exact int_ne (by rw[List.length_cons];omega)
theorem list_ne {l k:List UInt8} (h:l≠k):(l==k)=false:=beq_eq_false_iff_ne.2 h
theorem nil_ne {l:List UInt8} (h:l≠ []):l.isEmpty=false:=by
  cases l with
  |nil=>exact absurd rfl h
  |cons _ _=>rfl
set_option maxHeartbeats 2000000 in
set_option maxRecDepth 100000 in
theorem variable_any {k d:Nat} (hd:d≤20) (hR:RowDo k (d+1)) (p:Pt) (u:Value) (w:World) (hu:PsAt w u p.word) (hw:Small p.word):
    Calls Tryz.prog 160 #[partV p u,.int .i64 (d:Int)] w fun e w'=>e= .returned (.bool (varT (rowT k) p))∧Below w.heap.size w w':=by
  obtain⟨kd,tx,op,wd,q⟩:=p;obtain⟨a,c,rfl,hlen, -⟩:=hu.is;have HU:=yH (And.intro hu hw);have HN:=yH (fun W=>name_any (T tx) W);have HO:=yH (fun W=>isOther_any tx W);have HRW:=yH (fun W (hb:Below w.heap.size w W)=>hR wd _ W (HU.out.1.stays hb) HU.out.2);have HB:=yH (fun o=>below_one w o);have hE:=empty_len wd;obtain⟨E,hEE⟩:∃E,wd.isEmpty=E:=⟨_,rfl⟩;obtain⟨N,hN⟩:∃N,nameT tx=N:=⟨_,rfl⟩;obtain⟨O,hO⟩:∃O,otherT tx=O:=⟨_,rfl⟩;obtain⟨W0,hW0⟩:∃W0,rowT k wd=W0:=⟨_,rfl⟩
  have HV:=yH (show varT (rowT k) ⟨kd,tx,op,wd,q⟩=(if N||O then if op= []then E else if op= [35]then N&&E else if op= [58,61]then N&&W0 else if op= [58,45]then W0 else if op= [58,43]then W0 else false else false)from by
    rw[←hEE,←hN,←hO,←hW0];rfl)
  have HN:=yH (show ∀W,Calls Tryz.prog 148 #[.string (T tx)] W fun e w'=>e= .returned (.bool N)∧Below W.heap.size W w' from by rw[←hN];exact HN.out);have HO:=yH (show ∀W,Calls Tryz.prog 189 #[.string (T tx)] W fun e w'=>e= .returned (.bool O)∧W=w' from by rw[←hO];exact HO.out);rw[hEE]at hE;have HRW:=yH (show ∀W,Below w.heap.size w W→Calls Tryz.prog 81 #[.slice a wd.length c,.int .i64 ((d:Int)+1)] W fun e w'=>e= .returned (.bool W0)∧Below W.heap.size W w' from by rw[←hW0];exact HRW.out);obtain⟨R,hR⟩:∃R,varT (rowT k) ⟨kd,tx,op,wd,q⟩=R:=⟨_,rfl⟩;have HV:=yH (hR.symm.trans HV.out);have hd1:(d:Int)+1≤21:=(by omega);obtain⟨L,hL⟩:∃L,wd.length=L:=⟨_,rfl⟩;show Calls _ _ #[.agg #[.int .i64 kd,.string (T tx),.string (T op),.slice a wd.length c,.bool q],_] _ _;rw[hL]at hE HRW ⊢;rw[hR];obtain⟨s,hs⟩:∃s,T tx=s:=⟨_,rfl⟩;rw[hs]at HN HO ⊢;clear HU hW0 hN hO hEE hR hu hw hlen hs hL hd
  by_cases h0:op= []
  · have HVc:=yH (show R=(if N||O then E else false)from by rw[HV.out,if_pos h0])
    obtain⟨o,ho⟩:∃o,T op=o:=⟨_,rfl⟩;have b0:o.toList.isEmpty=true:=(by rw[←ho,Lib.toList_data];exact(by rw[h0];rfl));rw[ho];clear ho h0 HV
    cases N<;>cases O
    all_goals
      go_enter Tryz.func160,Tryz.ntmps160
      go_wp2_with (first
          |(go_at_call 148;refine(HN.out _).mono ?_;rintro e w1 ⟨rfl,hb⟩;obtain⟨c0,c1,c2,c3,c4⟩:=(PC.new w kd _ _ _ q 55).below hb;have HB1:=yH ((HB.out _).trans (hb.mono (HB.out _).size));clear hb)
          |(go_at_call 189;refine(HO.out _).mono ?_;rintro e w2 ⟨rfl,rfl⟩)
          |(go_at_call 81;refine(HRW.out _ HB1.out).mono ?_;rintro e w3 ⟨rfl,hb⟩;have HB2:=yH (HB1.out.trans (hb.mono HB1.out.size));clear hb))
      go_ret
      first|exact⟨ret_bool HVc.out.symm,HB2.out⟩|exact⟨ret_bool HVc.out.symm,HB1.out⟩
  · skip
    by_cases h1:op= [35]
    · have HVc:=yH (show R=(if N||O then N&&E else false)from by rw[HV.out,if_neg h0,if_pos h1])
      obtain⟨o,ho⟩:∃o,T op=o:=⟨_,rfl⟩;have b0:o.toList.isEmpty=false:=(by rw[←ho,Lib.toList_data];exact nil_ne h0);have b1:(o.toList== [35])=true:=(by rw[←ho,Lib.toList_data];exact(by rw[h1];rfl));rw[ho];clear ho h0 h1 HV
      cases N<;>cases O
      all_goals
        go_enter Tryz.func160,Tryz.ntmps160
        go_wp2_with (first
          |(go_at_call 148;refine(HN.out _).mono ?_;rintro e w1 ⟨rfl,hb⟩;obtain⟨c0,c1,c2,c3,c4⟩:=(PC.new w kd _ _ _ q 55).below hb;have HB1:=yH ((HB.out _).trans (hb.mono (HB.out _).size));clear hb)
          |(go_at_call 189;refine(HO.out _).mono ?_;rintro e w2 ⟨rfl,rfl⟩)
          |(go_at_call 81;refine(HRW.out _ HB1.out).mono ?_;rintro e w3 ⟨rfl,hb⟩;have HB2:=yH (HB1.out.trans (hb.mono HB1.out.size));clear hb))
        go_ret
        first|exact⟨ret_bool HVc.out.symm,HB2.out⟩|exact⟨ret_bool HVc.out.symm,HB1.out⟩
    · skip
      by_cases h2:op= [58,61]
      · have HVc:=yH (show R=(if N||O then N&&W0 else false)from by rw[HV.out,if_neg h0,if_neg h1,if_pos h2])
        obtain⟨o,ho⟩:∃o,T op=o:=⟨_,rfl⟩;have b0:o.toList.isEmpty=false:=(by rw[←ho,Lib.toList_data];exact nil_ne h0);have b1:(o.toList== [35])=false:=(by rw[←ho,Lib.toList_data];exact list_ne h1);have b2:(o.toList== [58,61])=true:=(by rw[←ho,Lib.toList_data];exact(by rw[h2];rfl));rw[ho];clear ho h0 h1 h2 HV
        cases N<;>cases O
        all_goals
          go_enter Tryz.func160,Tryz.ntmps160
          go_wp2_with (first
          |(go_at_call 148;refine(HN.out _).mono ?_;rintro e w1 ⟨rfl,hb⟩;obtain⟨c0,c1,c2,c3,c4⟩:=(PC.new w kd _ _ _ q 55).below hb;have HB1:=yH ((HB.out _).trans (hb.mono (HB.out _).size));clear hb)
          |(go_at_call 189;refine(HO.out _).mono ?_;rintro e w2 ⟨rfl,rfl⟩)
          |(go_at_call 81;refine(HRW.out _ HB1.out).mono ?_;rintro e w3 ⟨rfl,hb⟩;have HB2:=yH (HB1.out.trans (hb.mono HB1.out.size));clear hb))
          go_ret
          first|exact⟨ret_bool HVc.out.symm,HB2.out⟩|exact⟨ret_bool HVc.out.symm,HB1.out⟩
      · skip
        by_cases h3:op= [58,45]
        · have HVc:=yH (show R=(if N||O then W0 else false)from by rw[HV.out,if_neg h0,if_neg h1,if_neg h2,if_pos h3])
          obtain⟨o,ho⟩:∃o,T op=o:=⟨_,rfl⟩;have b0:o.toList.isEmpty=false:=(by rw[←ho,Lib.toList_data];exact nil_ne h0);have b1:(o.toList== [35])=false:=(by rw[←ho,Lib.toList_data];exact list_ne h1);have b2:(o.toList== [58,61])=false:=(by rw[←ho,Lib.toList_data];exact list_ne h2);have b3:(o.toList== [58,45])=true:=(by rw[←ho,Lib.toList_data];exact(by rw[h3];rfl));rw[ho];clear ho h0 h1 h2 h3 HV
          cases N<;>cases O
          all_goals
            go_enter Tryz.func160,Tryz.ntmps160
            go_wp2_with (first
          |(go_at_call 148;refine(HN.out _).mono ?_;rintro e w1 ⟨rfl,hb⟩;obtain⟨c0,c1,c2,c3,c4⟩:=(PC.new w kd _ _ _ q 55).below hb;have HB1:=yH ((HB.out _).trans (hb.mono (HB.out _).size));clear hb)
          |(go_at_call 189;refine(HO.out _).mono ?_;rintro e w2 ⟨rfl,rfl⟩)
          |(go_at_call 81;refine(HRW.out _ HB1.out).mono ?_;rintro e w3 ⟨rfl,hb⟩;have HB2:=yH (HB1.out.trans (hb.mono HB1.out.size));clear hb))
            go_ret
            first|exact⟨ret_bool HVc.out.symm,HB2.out⟩|exact⟨ret_bool HVc.out.symm,HB1.out⟩
        · skip
          by_cases h4:op= [58,43]
          · have HVc:=yH (show R=(if N||O then W0 else false)from by rw[HV.out,if_neg h0,if_neg h1,if_neg h2,if_neg h3,if_pos h4])
            obtain⟨o,ho⟩:∃o,T op=o:=⟨_,rfl⟩;have b0:o.toList.isEmpty=false:=(by rw[←ho,Lib.toList_data];exact nil_ne h0);have b1:(o.toList== [35])=false:=(by rw[←ho,Lib.toList_data];exact list_ne h1);have b2:(o.toList== [58,61])=false:=(by rw[←ho,Lib.toList_data];exact list_ne h2);have b3:(o.toList== [58,45])=false:=(by rw[←ho,Lib.toList_data];exact list_ne h3);have b4:(o.toList== [58,43])=true:=(by rw[←ho,Lib.toList_data];exact(by rw[h4];rfl));rw[ho];clear ho h0 h1 h2 h3 h4 HV
            cases N<;>cases O
            all_goals
              go_enter Tryz.func160,Tryz.ntmps160
              go_wp2_with (first
          |(go_at_call 148;refine(HN.out _).mono ?_;rintro e w1 ⟨rfl,hb⟩;obtain⟨c0,c1,c2,c3,c4⟩:=(PC.new w kd _ _ _ q 55).below hb;have HB1:=yH ((HB.out _).trans (hb.mono (HB.out _).size));clear hb)
          |(go_at_call 189;refine(HO.out _).mono ?_;rintro e w2 ⟨rfl,rfl⟩)
          |(go_at_call 81;refine(HRW.out _ HB1.out).mono ?_;rintro e w3 ⟨rfl,hb⟩;have HB2:=yH (HB1.out.trans (hb.mono HB1.out.size));clear hb))
              go_ret
              first|exact⟨ret_bool HVc.out.symm,HB2.out⟩|exact⟨ret_bool HVc.out.symm,HB1.out⟩
          · have HVc:=yH (show R=(if N||O then false else false)from by rw[HV.out,if_neg h0,if_neg h1,if_neg h2,if_neg h3,if_neg h4])
            obtain⟨o,ho⟩:∃o,T op=o:=⟨_,rfl⟩;have b0:o.toList.isEmpty=false:=(by rw[←ho,Lib.toList_data];exact nil_ne h0);have b1:(o.toList== [35])=false:=(by rw[←ho,Lib.toList_data];exact list_ne h1);have b2:(o.toList== [58,61])=false:=(by rw[←ho,Lib.toList_data];exact list_ne h2);have b3:(o.toList== [58,45])=false:=(by rw[←ho,Lib.toList_data];exact list_ne h3);have b4:(o.toList== [58,43])=false:=(by rw[←ho,Lib.toList_data];exact list_ne h4);rw[ho];clear ho h0 h1 h2 h3 h4 HV
            cases N<;>cases O
            all_goals
              go_enter Tryz.func160,Tryz.ntmps160
              go_wp2_with (first
          |(go_at_call 148;refine(HN.out _).mono ?_;rintro e w1 ⟨rfl,hb⟩;obtain⟨c0,c1,c2,c3,c4⟩:=(PC.new w kd _ _ _ q 55).below hb;have HB1:=yH ((HB.out _).trans (hb.mono (HB.out _).size));clear hb)
          |(go_at_call 189;refine(HO.out _).mono ?_;rintro e w2 ⟨rfl,rfl⟩)
          |(go_at_call 81;refine(HRW.out _ HB1.out).mono ?_;rintro e w3 ⟨rfl,hb⟩;have HB2:=yH (HB1.out.trans (hb.mono HB1.out.size));clear hb))
              go_ret
              first|exact⟨ret_bool HVc.out.symm,HB2.out⟩|exact⟨ret_bool HVc.out.symm,HB1.out⟩
set_option maxHeartbeats 2000000 in
set_option maxRecDepth 100000 in
theorem tpart_any {k d:Nat} (hd:d≤20) (hR:RowDo k (d+1)) (p:Pt) (u:Value) (w:World) (hu:PsAt w u p.word) (hw:Small p.word) (hs:p.text.length≤1048576):
    Calls Tryz.prog 122 #[partV p u,.int .i64 (d:Int)] w fun e w'=>e= .returned (.bool (partT (rowT k) (decide (0<d)) p))∧Below w.heap.size w w':=by
  have HVR:=yH (fun W (hb:Below w.heap.size w W)=>variable_any hd hR p u W (hu.stays hb) hw);have HLT:=yH (fun W=>letters_any p u d W hs);have HRK:=yH (fun W=>reckoning_any (T p.text) W hs);obtain⟨a,c,rfl,hlen, -⟩:=hu.is;obtain⟨kd,tx,op,wd,q⟩:=p;have HB:=yH (fun o=>below_one w o);have hE:=empty_len wd;obtain⟨R,hRR⟩:∃R,partT (rowT k) (decide (0<d)) ⟨kd,tx,op,wd,q⟩=R:=⟨_,rfl⟩;obtain⟨V1,hV1⟩:∃R,varT (rowT k) ⟨kd,tx,op,wd,q⟩=R:=⟨_,rfl⟩;obtain⟨V2,hV2⟩:∃R,litT (decide (0<d)) ⟨kd,tx,op,wd,q⟩=R:=⟨_,rfl⟩;obtain⟨V3,hV3⟩:∃R,arithT tx 0=R:=⟨_,rfl⟩;obtain⟨E,hEE⟩:∃E,wd.isEmpty=E:=⟨_,rfl⟩;obtain⟨O,hOO⟩:∃E,op.isEmpty=E:=⟨_,rfl⟩;obtain⟨o,ho⟩:∃o,T op=o:=⟨_,rfl⟩;have b0:o.toList.isEmpty=O:=(by rw[←ho,Lib.toList_data];exact hOO)
  have HV:=yH (show R=(if kd=1 then O&&(E&&V2)else if kd=2 then V1 else if kd=3 then O&&(E&&V3)else false)from by
    rw[←hRR,←hV1,←hV2,←hV3,←hEE,←hOO];rfl)
  obtain⟨L,hL⟩:∃L,wd.length=L:=⟨_,rfl⟩;obtain⟨s,hss⟩:∃s,T tx=s:=⟨_,rfl⟩;rw[hEE]at hE;rw[hRR];simp only at HVR HLT HRK;rw[hV1]at HVR;rw[hV2]at HLT;rw[hV3,hss]at HRK;have HVR:=yH (show ∀W,Below w.heap.size w W→Calls Tryz.prog 160 #[.agg #[.int .i64 kd,.string s,.string o,.slice a L c,.bool q],.int .i64 (d:Int)] W fun e w'=>e= .returned (.bool V1)∧Below W.heap.size W w' from by rw[←hss,←ho,←hL];exact HVR.out);have HLT:=yH (show ∀W,Calls Tryz.prog 159 #[.agg #[.int .i64 kd,.string s,.string o,.slice a L c,.bool q],.int .i64 (d:Int)] W fun e w'=>e= .returned (.bool V2)∧Below W.heap.size W w' from by rw[←hss,←ho,←hL];exact HLT.out);show Calls _ _ #[.agg #[.int .i64 kd,.string (T tx),.string (T op),.slice a wd.length c,.bool q],_] _ _;rw[hss,ho,hL];rw[hL]at hE;clear hV1 hV2 hV3 hEE hOO hRR hu hw hlen hs hR hd hss ho hL
  by_cases h1:kd=1
  · subst h1
    have HVc:=yH (show R=(O&&(E&&V2))from HV.out);clear HV
    cases O<;>cases E
    all_goals
      go_enter Tryz.func122,Tryz.ntmps122
      go_wp2_with (go_at_call 159;refine(HLT.out _).mono ?_;rintro e w1 ⟨rfl,hb⟩;have HB1:=yH ((HB.out _).trans (hb.mono (HB.out _).size));clear hb)
      go_ret
      first|exact⟨ret_bool HVc.out.symm,HB1.out⟩|exact⟨ret_bool HVc.out.symm,HB.out _⟩
  · have k1:=int_ne h1
    by_cases h2:kd=2
    · subst h2
      have HVc:=yH (show R=V1 from HV.out);clear HV k1 h1;go_enter Tryz.func122,Tryz.ntmps122
      go_wp2_with (go_at_call 160;refine(HVR.out _ (HB.out _)).mono ?_;rintro e w1 ⟨rfl,hb⟩;have HB1:=yH ((HB.out _).trans (hb.mono (HB.out _).size));clear hb)
      go_ret;exact⟨ret_bool HVc.out.symm,HB1.out⟩
    · have k2:=int_ne h2
      by_cases h3:kd=3
      · subst h3
        have HVc:=yH (show R=(O&&(E&&V3))from HV.out);clear HV k1 h1 k2 h2
        cases O<;>cases E
        all_goals
          go_enter Tryz.func122,Tryz.ntmps122
          go_wp2_with (go_at_call 161;refine(HRK.out _).mono ?_;rintro e w1 ⟨rfl,hb⟩;have HB1:=yH ((HB.out _).trans (hb.mono (HB.out _).size));clear hb)
          go_ret
          first|exact⟨ret_bool HVc.out.symm,HB1.out⟩|exact⟨ret_bool HVc.out.symm,HB.out _⟩
      · have k3:=int_ne h3
        have HVc:=yH (show R=false from by rw[HV.out,if_neg h1,if_neg h2,if_neg h3]);clear HV h1 h2 h3;go_enter Tryz.func122,Tryz.ntmps122;go_wp2_with fail;go_ret;exact⟨ret_bool HVc.out.symm,HB.out _⟩
end Go.Proofs.YtcpmjkefbjbhpaaGreatDoor
namespace Go.Proofs.YtcpmjkefbjbhpaaGreatDoor.ParseMath
open Go Go.Lib GlyphMath LexMath TreeMath
theorem take_err (S:PS):S.take.err=S.err:=by unfold PS.take;split<;>rfl
section
variable {S : PS} (h : S.err ≠ 0)
include h
theorem fail_err (e:Nat):(S.fail e).err=S.err:=by simp[PS.fail,h]
theorem want_err (b:Bool):(S.want b).err=S.err:=by
  unfold PS.want
  split
  · rfl
  · exact fail_err h 2
end
def signsB:List (List UInt8):= [[38,38],[124,124],[59,59],[62,62],[59],[124],[40],[41],[62],[60],[10]]
structure MidT (t:Tk):Prop where
  at_:t.at_≤2000
  is:(t.kind=1∧t.text= []∧wordT t.word=true∧Small t.word∧t.word.length≤4000)∨(t.kind=2∧t.word= []∧signsB.contains t.text=true)
structure EndT (t:Tk):Prop where
  kind:t.kind=3
  text:t.text= []
  word:t.word= []
  at_:t.at_≤2000
inductive Row:List Tk→Prop
  |one (e:Tk):EndT e→Row [e]
  |more (t:Tk) (r:List Tk):MidT t→Row r→Row (t::r)
structure GoodS (S:PS):Prop where
  row:Row S.ts
  few:S.ts.length≤2001
  at_:S.at_≤2000
  err:S.err≤3
theorem MidT.ne {t:Tk} (h:MidT t):t.kind≠3:=by rcases h.is with h|h<;>rw[h.1]<;>decide
theorem Row.ne {l:List Tk} (h:Row l):l≠ []:=by cases h<;>simp
theorem Row.suf {l:List Tk} (h:Row l):∀ {r:List Tk},r<:+l→r≠ []→Row r:=by
  induction h with
  |one e he=>
    intro r hs hn
    rcases List.suffix_cons_iff.1 hs with rfl|h
    · exact .one e he
    · exact absurd (List.suffix_nil.1 h) hn
  |more t l ht hl ih=>
    intro r hs hn
    rcases List.suffix_cons_iff.1 hs with rfl|h
    · exact .more t l ht hl
    · exact ih h hn
theorem GoodS.hd {S:PS} (h:GoodS S):(EndT S.hd∧S.ts= [S.hd])∨(MidT S.hd∧Row S.ts.tail∧S.ts=S.hd::S.ts.tail):=by
  obtain⟨ts,a,e⟩:=S;have h:=h.row
  cases h with
  |one e he=>exact .inl ⟨he,rfl⟩
  |more t l ht hl=>exact .inr ⟨ht,hl,rfl⟩
theorem GoodS.at0 {S:PS} (h:GoodS S):S.hd.at_≤2000:=by
  rcases h.hd with ⟨h, -⟩|⟨h, -⟩<;>exact h.at_
theorem GoodS.pos {S:PS} (h:GoodS S):0<S.ts.length:=List.length_pos_iff.2 h.row.ne
structure To (S S':PS):Prop where
  good:GoodS S'
  suf:S'.ts<:+S.ts
theorem To.refl {S:PS} (h:GoodS S):To S S:=⟨h,List.suffix_refl _⟩
theorem To.trans {a b c:PS} (h:To a b) (k:To b c):To a c:=⟨k.good,k.suf.trans h.suf⟩
theorem To.len {S S':PS} (h:To S S'):S'.ts.length≤S.ts.length:=h.suf.length_le
theorem to_take {S:PS} (h:GoodS S):To S S.take:=by
  unfold PS.take
  split
  · exact To.refl h
  · rename_i hk
    rcases h.hd with ⟨h1, -⟩|⟨-,h1, -⟩
    · exact absurd h1.kind hk
    · exact⟨⟨h1,by have:=h.few;simp;omega,h.at_,h.err⟩,List.tail_suffix _⟩
theorem take_lt {S:PS} (h:GoodS S) (hk:S.hd.kind≠3):S.take.ts.length<S.ts.length:=by
  unfold PS.take;rw[if_neg hk];have:=h.pos;simp;omega
theorem to_fail {S:PS} (h:GoodS S) {e:Nat} (he:e≤3):To S (S.fail e):=by
  have hp:=h.pos;have hs:S.ts.drop (S.ts.length-1)<:+S.ts:=List.drop_suffix _ _
  have hn:S.ts.drop (S.ts.length-1)≠ []:=by
    apply List.length_pos_iff.1;simp;omega
  refine⟨⟨h.row.suf hs hn,?_,?_,?_⟩,hs⟩
  · simp[PS.fail];omega
  · show(if S.err=0 then S.hd.at_ else S.at_)≤2000
    split
    · exact h.at0
    · exact h.at_
  · show(if S.err=0 then e else S.err)≤3
    split
    · exact he
    · exact h.err
theorem fail_one {S:PS} (h:GoodS S) (e:Nat):(S.fail e).ts.length=1:=by
  have hp:=h.pos;simp[PS.fail];omega
theorem to_want {S:PS} (h:GoodS S) (b:Bool):To S (S.want b):=by
  unfold PS.want
  split
  · exact To.refl h
  · exact to_fail h (by decide)
theorem to_takes {S:PS} (h:GoodS S) (s:List UInt8):To S (S.takes s).2:=by
  unfold PS.takes
  split
  · exact to_take h
  · exact To.refl h
theorem to_need {S:PS} (h:GoodS S) (s:List UInt8):To S (S.need s):=by
  unfold PS.need
  split
  · exact to_take h
  · exact to_fail h (by decide)
theorem to_word {S:PS} (h:GoodS S):To S S.word.2:=(to_want h _).trans (to_take (to_want h _).good)
theorem to_name {S:PS} (h:GoodS S):To S S.name.2:=(to_want h _).trans (to_take (to_want h _).good)
theorem GoodS.tx3 {S:PS} (h:GoodS S) (hk:S.hd.kind=3):S.tx= []:=by
  rcases h.hd with ⟨h1, -⟩|⟨h1, -⟩
  · unfold PS.tx textK
    rw[if_neg (by rw[hk];decide),h1.text]
  · exact absurd hk h1.ne
theorem is_ne {S:PS} (h:GoodS S) {s:List UInt8} (hs:s≠ []) (hi:S.is s=true):S.hd.kind≠3:=by
  intro hk;unfold PS.is at hi;rw[h.tx3 hk]at hi;exact hs (by simpa using hi.symm)
theorem to_linesL:∀(f:Nat) {S:PS},GoodS S→To S (linesL f S)
  |0,_,h=>To.refl h
  |f+1,S,h=>by
    unfold linesL
    split
    · exact(to_take h).trans (to_linesL f (to_take h).good)
    · exact To.refl h
theorem to_lines {S:PS} (h:GoodS S):To S S.lines:=to_linesL _ h
theorem to_sep {S:PS} (h:GoodS S):To S S.sep.2:=by
  unfold PS.sep
  split
  · exact(to_take h).trans (to_lines (to_take h).good)
  · exact To.refl h
theorem sep_lt {S:PS} (h:GoodS S) (hs:S.sep.1=true):S.sep.2.ts.length<S.ts.length:=by
  unfold PS.sep at hs ⊢
  split at hs
  · rename_i hk
    rw[if_pos hk]
    have hn:S.hd.kind≠3:=by
      rcases Bool.or_eq_true_iff.1 hk with hk|hk
      · exact is_ne h (by decide) hk
      · exact is_ne h (by decide) hk
    exact Nat.lt_of_le_of_lt (to_lines (to_take h).good).len (take_lt h hn)
  · cases hs
theorem redir_ne {S:PS} (h:GoodS S) (hr:S.isRedir=true):S.hd.kind≠3:=by
  unfold PS.isRedir at hr
  rcases Bool.or_eq_true_iff.1 hr with hr|hr
  · exact is_ne h (by decide) hr
  · rcases Bool.or_eq_true_iff.1 hr with hr|hr
    · exact is_ne h (by decide) hr
    · exact is_ne h (by decide) hr
theorem isWord_ne {S:PS} (hr:S.isWord=true):S.hd.kind≠3:=by
  have:S.hd.kind=1:=(by simpa [PS.isWord]using hr);rw[this];decide
theorem to_redir {S:PS} (h:GoodS S):To S (redirM S).2:=(to_take h).trans (to_word (to_take h).good)
theorem redir_lt {S:PS} (h:GoodS S) (hr:S.isRedir=true):(redirM S).2.ts.length<S.ts.length:=Nat.lt_of_le_of_lt (to_word (to_take h).good).len (take_lt h (redir_ne h hr))
theorem word_lt {S:PS} (h:GoodS S) (hr:S.isWord=true):S.word.2.ts.length<S.ts.length:=by
  unfold PS.word PS.want;rw[hr];exact take_lt h (isWord_ne hr)
theorem two_of {S:PS} (h:GoodS S) (hk:S.hd.kind≠3):2≤S.ts.length:=by
  rcases h.hd with ⟨h1, -⟩|⟨-,h1,h2⟩
  · exact absurd h1.kind hk
  · have:=List.length_pos_iff.2 h1.ne
    simp at this;omega
theorem to_part {S:PS} (h:GoodS S) (n:Nd):To S (partM n S).2:=by
  unfold partM
  split
  · split
    · exact to_take h
    · split
      · exact to_fail h (by decide)
      · exact to_word h
  · exact to_word h
theorem to_simpleL:∀(f:Nat) (n:Nd) {S:PS},GoodS S→To S (simpleL f n S).2
  |0,_,_,h=>To.refl h
  |f+1,n,S,h=>by
    unfold simpleL
    split
    · exact(to_redir h).trans (to_simpleL f _ (to_redir h).good)
    · split
      · exact(to_part h n).trans (to_simpleL f _ (to_part h n).good)
      · exact To.refl h
theorem to_simple {S:PS} (h:GoodS S):To S (simpleM S).2:=(to_want h _).trans (to_simpleL _ _ (to_want h _).good)
def DoOk (cmd:Do):Prop:=∀S,GoodS S→To S (cmd S).2
section
variable {cmd : Do} (hc : DoOk cmd)
include hc
theorem to_pipeL:∀(f:Nat) (l:List Tr) {S:PS},GoodS S→To S (pipeL cmd f l S).2
  |0,_,_,h=>To.refl h
  |f+1,l,S,h=>by
    unfold pipeL
    split
    · have h1:=(to_take h).trans (to_lines (to_take h).good)
      have h2:=h1.trans (hc _ h1.good);exact h2.trans (to_pipeL f _ h2.good)
    · exact To.refl h
theorem to_pipe:DoOk (pipeM cmd):=fun S h=>by
  unfold pipeM;have h1:=to_takes h [33];have h2:=h1.trans (hc _ h1.good);exact h2.trans (to_pipeL hc _ _ h2.good)
theorem to_andorL:∀(f:Nat) (n:Tr) {S:PS},GoodS S→To S (andorL cmd f n S).2
  |0,_,_,h=>To.refl h
  |f+1,n,S,h=>by
    have h1:=(to_take h).trans (to_lines (to_take h).good);have h2:=h1.trans (to_pipe hc _ h1.good);unfold andorL
    split
    · exact h2.trans (to_andorL f _ h2.good)
    · split
      · exact h2.trans (to_andorL f _ h2.good)
      · exact To.refl h
theorem to_andor:DoOk (andorM cmd):=fun S h=>(to_pipe hc S h).trans (to_andorL hc _ _ (to_pipe hc S h).good)
theorem to_listL:∀(f:Nat) (l:List Tr) {S:PS},GoodS S→To S (listL cmd f l S).2
  |0,_,_,h=>To.refl h
  |f+1,l,S,h=>by
    have h2:=(to_sep h).trans (to_andor hc _ (to_sep h).good);unfold listL
    split
    · exact h2.trans (to_listL f _ h2.good)
    · exact to_sep h
theorem to_list:DoOk (listM cmd):=fun S h=>by
  unfold listM;have h1:=(to_lines h).trans (to_andor hc _ (to_lines h).good);exact h1.trans (to_listL hc _ _ h1.good)
theorem to_enclosed (op cl:List UInt8):DoOk (enclosedM cmd op cl):=fun S h=>by
  have h1:=(to_take h).trans (to_list hc _ (to_take h).good);exact h1.trans (to_need h1.good _)
theorem to_body:DoOk (bodyM cmd):=fun S h=>by
  have h1:=(to_need h [100,111]).trans (to_list hc _ (to_need h _).good);exact h1.trans (to_need h1.good _)
theorem to_loop (op:List UInt8):DoOk (loopM cmd op):=fun S h=>by
  have h1:=(to_take h).trans (to_list hc _ (to_take h).good);exact h1.trans (to_body hc _ h1.good)
theorem to_branch {br:Do} (hb:DoOk br):DoOk (branchM cmd br):=fun S h=>by
  have h1:=(to_take h).trans (to_list hc _ (to_take h).good);have h2:=h1.trans (to_need h1.good [116,104,101,110]);have h3:=h2.trans (to_list hc _ h2.good);have h4:=h3.trans (hb _ h3.good);have h5:=h3.trans (to_take h3.good);have h6:=h5.trans (to_list hc _ h5.good);unfold branchM;dsimp only
  split
  · exact h4
  · split
    · exact h6.trans (to_need h6.good _)
    · exact h3.trans (to_need h3.good _)
omit hc in
theorem to_wordsL:∀(f:Nat) (l:List (List Pt)) {S:PS},GoodS S→To S (wordsL f l S).2
  |0,_,_,h=>To.refl h
  |f+1,l,S,h=>by
    unfold wordsL
    split
    · exact(to_word h).trans (to_wordsL f _ (to_word h).good)
    · exact To.refl h
theorem to_each:DoOk (eachM cmd):=fun S h=>by
  have h1:=(to_take h).trans (to_name (to_take h).good);have h2:=h1.trans (to_need h1.good [105,110]);have h3:=h2.trans (to_wordsL ((S.take.name.2.need [105,110]).ts.length) [] h2.good);have h4:=h3.trans (to_sep h3.good);exact h4.trans (to_body hc _ h4.good)
omit hc in
theorem to_patsL:∀(f:Nat) (l:List (List Pt)) {S:PS},GoodS S→To S (patsL f l S).2
  |0,_,_,h=>To.refl h
  |f+1,l,S,h=>by
    have h2:=(to_take h).trans (to_word (to_take h).good);unfold patsL
    split
    · exact h2.trans (to_patsL f _ h2.good)
    · exact To.refl h
omit hc in
theorem to_pats {S:PS} (h:GoodS S):To S (patsM S).2:=by
  have h1:=(to_takes h [40]).trans (to_word (to_takes h [40]).good);have h2:=h1.trans (to_patsL ((S.takes [40]).2.word.2.ts.length) [(S.takes [40]).2.word.1] h1.good);exact h2.trans (to_need h2.good _)
omit hc in
theorem word_le {S:PS} (h:GoodS S) (hk:S.hd.kind≠3):S.word.2.ts.length<S.ts.length:=by
  cases hw:S.isWord with
  |true=>exact word_lt h hw
  |false=>
    have h2:=two_of h hk;have h3:=(to_take (to_fail h (e:=2) (by decide)).good).len;unfold PS.word PS.want;rw[hw];have:=fail_one h 2;simp only[Bool.false_eq_true,if_false];omega
omit hc in
theorem pats_lt {S:PS} (h:GoodS S) (hk:S.hd.kind≠3):(patsM S).2.ts.length<S.ts.length:=by
  have h1:=to_takes h [40];have h2:=to_word h1.good;have h3:=to_patsL ((S.takes [40]).2.word.2.ts.length) [(S.takes [40]).2.word.1] h2.good;have h4:=to_need h3.good [41];have l3:=h3.len;have l4:=h4.len
  have l2:(S.takes [40]).2.word.2.ts.length<S.ts.length:=by
    unfold PS.takes
    split
    · rename_i hi
      exact Nat.lt_of_le_of_lt (to_word (to_take h).good).len (take_lt h hk)
    · exact word_le h hk
  have:(patsM S).2.ts.length≤(S.takes [40]).2.word.2.ts.length:=Nat.le_trans l4 l3;omega
theorem to_choiceR {S:PS} (h:GoodS S):To S ((listM cmd (patsM S).2).2.need [59,59]).lines:=by
  have h1:=(to_pats h).trans (to_list hc _ (to_pats h).good);have h2:=h1.trans (to_need h1.good [59,59]);exact h2.trans (to_lines h2.good)
theorem to_choiceL:∀(f:Nat) (ps:List (List (List Pt))) (l:List Tr) {S:PS},GoodS S→To S (choiceL cmd f ps l S).st
  |0,_,_,_,h=>To.refl h
  |f+1,ps,l,S,h=>by
    unfold choiceL
    split
    · exact To.refl h
    · exact(to_choiceR hc h).trans (to_choiceL f _ _ (to_choiceR hc h).good)
theorem to_choice:DoOk (choiceM cmd):=fun S h=>by
  have h1:=(to_take h).trans (to_word (to_take h).good);have h2:=h1.trans (to_need h1.good [105,110]);have h3:=h2.trans (to_lines h2.good);have h4:=h3.trans (to_choiceL hc ((S.take.word.2.need [105,110]).lines.ts.length) [] [] h3.good);exact h4.trans (to_need h4.good _)
theorem to_compound {br:Do} (hb:DoOk br) {S:PS} (h:GoodS S) {r:Tr×PS} (hr:compoundM cmd br S=some r):To S r.2:=by
  unfold compoundM at hr
  repeat' split at hr
  all_goals cases hr
  · exact to_enclosed hc _ _ _ h
  · exact to_enclosed hc _ _ _ h
  · exact to_branch hc hb _ h
  · exact to_loop hc _ _ h
  · exact to_loop hc _ _ h
  · exact to_each hc _ h
  · exact to_choice hc _ h
omit hc in
theorem to_redirsL:∀(f:Nat) (n:Nd) {S:PS},GoodS S→To S (redirsL f n S).2
  |0,_,_,h=>To.refl h
  |f+1,n,S,h=>by
    unfold redirsL
    split
    · exact(to_redir h).trans (to_redirsL f _ (to_redir h).good)
    · exact To.refl h
omit hc in
theorem to_fun {held:Do} (hh:DoOk held):DoOk (funM held):=fun S h=>by
  have h1:=to_name h;have h2:=h1.trans (to_need h1.good [40]);have h3:=h2.trans (to_need h2.good [41]);have h4:=h3.trans (to_lines h3.good);exact h4.trans (hh _ h4.good)
theorem to_command {br held:Do} (hb:DoOk br) (hh:DoOk held):DoOk (commandM cmd br held):=fun S h=>by
  unfold commandM
  split
  · exact to_fun hh _ h
  · split
    · rename_i r hr
      have h1:=to_compound hc hb h hr;exact h1.trans (to_redirsL _ _ h1.good)
    · exact to_simple h
theorem to_held:DoOk (heldM cmd):=fun S h=>by
  unfold heldM
  split
  · exact to_enclosed hc _ _ _ h
  · split
    · exact to_enclosed hc _ _ _ h
    · exact to_fail h (by decide)
end
theorem to_lv:∀k,DoOk (lv k).cmd∧DoOk (lv k).br∧DoOk (lv k).held
  |0=>⟨fun S h=>(to_fail h (by decide)).trans (to_simple (to_fail h (by decide)).good),fun S h=>To.refl h,fun S h=>to_fail h (by decide)⟩
  |k+1=>by
    obtain⟨h1,h2,h3⟩:=to_lv k;exact⟨to_command h1 h2 h3,to_branch h1 h2,to_held h1⟩
def Dead (S:PS):Prop:=S.ts.length=1
theorem Dead.kind {S:PS} (h:GoodS S) (hd:Dead S):S.hd.kind=3:=by
  apply Classical.byContradiction;intro hk;have:=two_of h hk;unfold Dead at hd;omega
theorem Dead.is {S:PS} (h:GoodS S) (hd:Dead S) {s:List UInt8} (hs:s≠ []):S.is s=false:=by
  cases hi:S.is s with
  |false=>rfl
  |true=>exact absurd (Dead.kind h hd) (is_ne h hs hi)
end Go.Proofs.YtcpmjkefbjbhpaaGreatDoor.ParseMath
