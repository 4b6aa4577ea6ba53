/-
  Proved: a contract of tree's spells. Conditions: texts of at most 2^20 bytes.
-/
import Derived.Test.YtcpmjkefbjbhpaaGreatDoorSw26
namespace Go.Proofs.YtcpmjkefbjbhpaaGreatDoor
open Go Go.RowKit GlyphMath LexMath TreeMath
structure NSmall (n:Nd):Prop where
  words:∀y∈n.words,Small y
  pats:∀l∈n.pats,∀y∈l,Small y
  assigns:∀y∈n.assigns,Small y.2
  redirs:∀y∈n.redirs,Small y.2
  name:n.name.length≤1048576
  names:∀y∈n.assigns,y.1.length≤1048576
set_option maxHeartbeats 4000000 in
set_option maxRecDepth 100000 in
theorem spells_any (n:Nd) (kp wp pp ap rp:Option Addr) (kc wc pc ac rc:Nat) (w:World) (hw:WsAt w (.slice wp n.words.length wc) n.words) (hp:PatsAt w (.slice pp n.pats.length pc) n.pats) (ha:AsAt w (.slice ap n.assigns.length ac) n.assigns) (hr:AsAt w (.slice rp n.redirs.length rc) n.redirs) (hs:NSmall n):
    Calls Tryz.prog 117 #[NV n kp wp pp ap rp kc wc pc ac rc] w fun e w'=>e= .returned (.bool (spellsT n))∧Below w.heap.size w w':=by
  have HBX:=yH (fun o=>below_one w o);obtain⟨R,hR⟩:∃R,spellsT n=R:=⟨_,rfl⟩;have HR:=yH (show(beginT n&&((n.name.isEmpty||nameT n.name)&&(n.words.all bareW&&(n.pats.all patT&&(n.assigns.all assignT&&n.redirs.all redirT)))))=R from hR);have HBG:=yH (show beginT n=(if n.op= [99,109,100]then commandT n else if n.op= [102,117,110]then !reservedT n.name else true)from rfl);rw[hR];have HCM:=yH (fun W (hb:Below w.heap.size w W)=>command_any n kp wp pp ap rp kc wc pc ac rc W (WsAt.below hw hb) hs.words);have HRS:=yH (fun W=>reserved_any n.name W);have HNM:=yH (fun W=>name_any (T n.name) W);have HWD:=yH (fun W (hb:Below w.heap.size w W)=>allw_any n.words _ W (WsAt.below hw hb) hs.words);have HPT:=yH (fun W (hb:Below w.heap.size w W)=>allp_any n.pats _ W (PatsAt.below hp hb) hs.pats);have HAS:=yH (fun W (hb:Below w.heap.size w W)=>alla_any n.assigns _ W (AsAt.below ha hb) hs.assigns);have HRD:=yH (fun W (hb:Below w.heap.size w W)=>allr_any n.redirs _ W (AsAt.below hr hb) hs.redirs);have HNT:=yH (show nameT n.name=nameL (letters (T n.name))from rfl);obtain⟨N,hN⟩:∃N,nameT n.name=N:=⟨_,rfl⟩;rw[hN]at HR HNT;rw[←HNT.out]at HNM;obtain⟨C,hC⟩:∃C,commandT n=C:=⟨_,rfl⟩;rw[hC]at HCM HBG;obtain⟨RS,hRS⟩:∃C,reservedT n.name=C:=⟨_,rfl⟩;rw[hRS]at HRS HBG;obtain⟨W,hW⟩:∃C,n.words.all bareW=C:=⟨_,rfl⟩;rw[hW]at HWD HR;obtain⟨P,hP⟩:∃C,n.pats.all patT=C:=⟨_,rfl⟩;rw[hP]at HPT HR;obtain⟨A,hA⟩:∃C,n.assigns.all assignT=C:=⟨_,rfl⟩;rw[hA]at HAS HR;obtain⟨D,hD⟩:∃C,n.redirs.all redirT=C:=⟨_,rfl⟩;rw[hD]at HRD HR;obtain⟨o,ho⟩:∃o,T n.op=o:=⟨_,rfl⟩;have hl:o.toList=n.op:=(by rw[←ho,Lib.toList_data]);obtain⟨x,hx⟩:∃o,T n.name=o:=⟨_,rfl⟩;have hxe:x.toList.isEmpty=n.name.isEmpty:=(by rw[←hx,Lib.toList_data]);have HCM:=yH (show ∀W,Below w.heap.size w W→Calls Tryz.prog 146 #[.agg #[.string o,.string x,.slice kp n.kids.length kc,.slice wp n.words.length wc,.slice pp n.pats.length pc,.slice ap n.assigns.length ac,.slice rp n.redirs.length rc]] W fun e w'=>e= .returned (.bool C)∧Below W.heap.size W w' from by rw[←ho,←hx];exact HCM.out);show Calls _ _ #[.agg #[.string (T n.op),.string (T n.name),.slice kp n.kids.length kc,.slice wp n.words.length wc,.slice pp n.pats.length pc,.slice ap n.assigns.length ac,.slice rp n.redirs.length rc]] _ _;rw[hx]at HRS HNM;rw[ho,hx]
  generalize n.name.isEmpty=E at HR hxe
  generalize n.pats.length=PL at HCM HPT ⊢
  generalize n.words.length=WL at HCM HWD ⊢
  generalize n.assigns.length=AL at HCM HAS ⊢
  generalize n.redirs.length=RL at HCM HRD ⊢
  generalize n.kids.length=KL at HCM ⊢
  have HNC:=yH (node_cells w o x (.slice kp KL kc) (.slice wp WL wc) (.slice pp PL pc) (.slice ap AL ac) (.slice rp RL rc) 41);have HB:=yH (Below.refl (w.alloc (.cells #[.string o,.string x,.slice kp KL kc,.slice wp WL wc,.slice pp PL pc,.slice ap AL ac,.slice rp RL rc] 41)).heap.size (w.alloc (.cells #[.string o,.string x,.slice kp KL kc,.slice wp WL wc,.slice pp PL pc,.slice ap AL ac,.slice rp RL rc] 41)));have HBW:=yH (show ∀W,Below (w.alloc (.cells #[.string o,.string x,.slice kp KL kc,.slice wp WL wc,.slice pp PL pc,.slice ap AL ac,.slice rp RL rc] 41)).heap.size (w.alloc (.cells #[.string o,.string x,.slice kp KL kc,.slice wp WL wc,.slice pp PL pc,.slice ap AL ac,.slice rp RL rc] 41)) W→Below w.heap.size w W from fun W hb=>(HBX.out _).trans (hb.mono (HBX.out _).size))
  have hop:(o.toList== [99,109,100])=true∧beginT n=C∨(o.toList== [99,109,100])=false∧(o.toList== [102,117,110])=true∧beginT n= !RS∨(o.toList== [99,109,100])=false∧(o.toList== [102,117,110])=false∧beginT n=true:=by
    rw[hl,HBG.out]
    by_cases h0:n.op= [99,109,100]
    · exact .inl ⟨by rw[h0];rfl,if_pos h0⟩
    · by_cases h1:n.op= [102,117,110]
      · exact .inr (.inl ⟨list_ne h0,by rw[h1];rfl,by rw[if_neg h0,if_pos h1]⟩)
      · exact .inr (.inr ⟨list_ne h0,list_ne h1,by rw[if_neg h0,if_neg h1]⟩)
  clear hR hw hp ha hr hs hN hC hRS hW hP hA hD ho hl hx HBG HNT
  rcases hop with ⟨b0,hbg⟩|⟨b0,b1,hbg⟩|⟨b0,b1,hbg⟩
  · have HV:=yH (show(C&&((E||N)&&(W&&(P&&(A&&D)))))=R from by rw[←HR.out,hbg])
    clear HR hbg
    cases C
    · go_enter Tryz.func117,Tryz.ntmps117
      go_wp2_with (first
        |(go_at_call 146;refine(HCM.out _ (HBW.out _ HB.out)).mono ?_;rintro e w1 ⟨rfl,hb⟩;have hb:=HB.out.trans (hb.mono HB.out.size);obtain⟨c1,c3,c4,c5,c6⟩:=HNC.out _ hb;have HB:=yH hb;clear hb)
        |(go_at_call 147;refine(HRS.out _).mono ?_;rintro e w3 ⟨rfl,rfl⟩)
        |(go_at_call 148;refine(HNM.out _).mono ?_;rintro e w1 ⟨rfl,hb⟩;have hb:=HB.out.trans (hb.mono HB.out.size);obtain⟨c1,c3,c4,c5,c6⟩:=HNC.out _ hb;have HB:=yH hb;clear hb)
        |(go_at_call 149;refine(HWD.out _ (HBW.out _ HB.out)).mono ?_;rintro e w1 ⟨rfl,hb⟩;have hb:=HB.out.trans (hb.mono HB.out.size);obtain⟨c1,c3,c4,c5,c6⟩:=HNC.out _ hb;have HB:=yH hb;clear hb)
        |(go_at_call 151;refine(HPT.out _ (HBW.out _ HB.out)).mono ?_;rintro e w1 ⟨rfl,hb⟩;have hb:=HB.out.trans (hb.mono HB.out.size);obtain⟨c1,c3,c4,c5,c6⟩:=HNC.out _ hb;have HB:=yH hb;clear hb)
        |(go_at_call 153;refine(HAS.out _ (HBW.out _ HB.out)).mono ?_;rintro e w1 ⟨rfl,hb⟩;have hb:=HB.out.trans (hb.mono HB.out.size);obtain⟨c1,c3,c4,c5,c6⟩:=HNC.out _ hb;have HB:=yH hb;clear hb)
        |(go_at_call 155;refine(HRD.out _ (HBW.out _ HB.out)).mono ?_;rintro e w1 ⟨rfl,hb⟩;have hb:=HB.out.trans (hb.mono HB.out.size);obtain⟨c1,c3,c4,c5,c6⟩:=HNC.out _ hb;have HB:=yH hb;clear hb))
      go_ret;exact⟨ret_bool HV.out,HBW.out _ HB.out⟩
    · cases E
      · cases N
        · go_enter Tryz.func117,Tryz.ntmps117
          go_wp2_with (first
            |(go_at_call 146;refine(HCM.out _ (HBW.out _ HB.out)).mono ?_;rintro e w1 ⟨rfl,hb⟩;have hb:=HB.out.trans (hb.mono HB.out.size);obtain⟨c1,c3,c4,c5,c6⟩:=HNC.out _ hb;have HB:=yH hb;clear hb)
            |(go_at_call 147;refine(HRS.out _).mono ?_;rintro e w3 ⟨rfl,rfl⟩)
            |(go_at_call 148;refine(HNM.out _).mono ?_;rintro e w1 ⟨rfl,hb⟩;have hb:=HB.out.trans (hb.mono HB.out.size);obtain⟨c1,c3,c4,c5,c6⟩:=HNC.out _ hb;have HB:=yH hb;clear hb)
            |(go_at_call 149;refine(HWD.out _ (HBW.out _ HB.out)).mono ?_;rintro e w1 ⟨rfl,hb⟩;have hb:=HB.out.trans (hb.mono HB.out.size);obtain⟨c1,c3,c4,c5,c6⟩:=HNC.out _ hb;have HB:=yH hb;clear hb)
            |(go_at_call 151;refine(HPT.out _ (HBW.out _ HB.out)).mono ?_;rintro e w1 ⟨rfl,hb⟩;have hb:=HB.out.trans (hb.mono HB.out.size);obtain⟨c1,c3,c4,c5,c6⟩:=HNC.out _ hb;have HB:=yH hb;clear hb)
            |(go_at_call 153;refine(HAS.out _ (HBW.out _ HB.out)).mono ?_;rintro e w1 ⟨rfl,hb⟩;have hb:=HB.out.trans (hb.mono HB.out.size);obtain⟨c1,c3,c4,c5,c6⟩:=HNC.out _ hb;have HB:=yH hb;clear hb)
            |(go_at_call 155;refine(HRD.out _ (HBW.out _ HB.out)).mono ?_;rintro e w1 ⟨rfl,hb⟩;have hb:=HB.out.trans (hb.mono HB.out.size);obtain⟨c1,c3,c4,c5,c6⟩:=HNC.out _ hb;have HB:=yH hb;clear hb))
          go_ret;exact⟨ret_bool HV.out,HBW.out _ HB.out⟩
        · cases W
          · go_enter Tryz.func117,Tryz.ntmps117
            go_wp2_with (first
              |(go_at_call 146;refine(HCM.out _ (HBW.out _ HB.out)).mono ?_;rintro e w1 ⟨rfl,hb⟩;have hb:=HB.out.trans (hb.mono HB.out.size);obtain⟨c1,c3,c4,c5,c6⟩:=HNC.out _ hb;have HB:=yH hb;clear hb)
              |(go_at_call 147;refine(HRS.out _).mono ?_;rintro e w3 ⟨rfl,rfl⟩)
              |(go_at_call 148;refine(HNM.out _).mono ?_;rintro e w1 ⟨rfl,hb⟩;have hb:=HB.out.trans (hb.mono HB.out.size);obtain⟨c1,c3,c4,c5,c6⟩:=HNC.out _ hb;have HB:=yH hb;clear hb)
              |(go_at_call 149;refine(HWD.out _ (HBW.out _ HB.out)).mono ?_;rintro e w1 ⟨rfl,hb⟩;have hb:=HB.out.trans (hb.mono HB.out.size);obtain⟨c1,c3,c4,c5,c6⟩:=HNC.out _ hb;have HB:=yH hb;clear hb)
              |(go_at_call 151;refine(HPT.out _ (HBW.out _ HB.out)).mono ?_;rintro e w1 ⟨rfl,hb⟩;have hb:=HB.out.trans (hb.mono HB.out.size);obtain⟨c1,c3,c4,c5,c6⟩:=HNC.out _ hb;have HB:=yH hb;clear hb)
              |(go_at_call 153;refine(HAS.out _ (HBW.out _ HB.out)).mono ?_;rintro e w1 ⟨rfl,hb⟩;have hb:=HB.out.trans (hb.mono HB.out.size);obtain⟨c1,c3,c4,c5,c6⟩:=HNC.out _ hb;have HB:=yH hb;clear hb)
              |(go_at_call 155;refine(HRD.out _ (HBW.out _ HB.out)).mono ?_;rintro e w1 ⟨rfl,hb⟩;have hb:=HB.out.trans (hb.mono HB.out.size);obtain⟨c1,c3,c4,c5,c6⟩:=HNC.out _ hb;have HB:=yH hb;clear hb))
            go_ret;exact⟨ret_bool HV.out,HBW.out _ HB.out⟩
          · cases P
            · go_enter Tryz.func117,Tryz.ntmps117
              go_wp2_with (first
                |(go_at_call 146;refine(HCM.out _ (HBW.out _ HB.out)).mono ?_;rintro e w1 ⟨rfl,hb⟩;have hb:=HB.out.trans (hb.mono HB.out.size);obtain⟨c1,c3,c4,c5,c6⟩:=HNC.out _ hb;have HB:=yH hb;clear hb)
                |(go_at_call 147;refine(HRS.out _).mono ?_;rintro e w3 ⟨rfl,rfl⟩)
                |(go_at_call 148;refine(HNM.out _).mono ?_;rintro e w1 ⟨rfl,hb⟩;have hb:=HB.out.trans (hb.mono HB.out.size);obtain⟨c1,c3,c4,c5,c6⟩:=HNC.out _ hb;have HB:=yH hb;clear hb)
                |(go_at_call 149;refine(HWD.out _ (HBW.out _ HB.out)).mono ?_;rintro e w1 ⟨rfl,hb⟩;have hb:=HB.out.trans (hb.mono HB.out.size);obtain⟨c1,c3,c4,c5,c6⟩:=HNC.out _ hb;have HB:=yH hb;clear hb)
                |(go_at_call 151;refine(HPT.out _ (HBW.out _ HB.out)).mono ?_;rintro e w1 ⟨rfl,hb⟩;have hb:=HB.out.trans (hb.mono HB.out.size);obtain⟨c1,c3,c4,c5,c6⟩:=HNC.out _ hb;have HB:=yH hb;clear hb)
                |(go_at_call 153;refine(HAS.out _ (HBW.out _ HB.out)).mono ?_;rintro e w1 ⟨rfl,hb⟩;have hb:=HB.out.trans (hb.mono HB.out.size);obtain⟨c1,c3,c4,c5,c6⟩:=HNC.out _ hb;have HB:=yH hb;clear hb)
                |(go_at_call 155;refine(HRD.out _ (HBW.out _ HB.out)).mono ?_;rintro e w1 ⟨rfl,hb⟩;have hb:=HB.out.trans (hb.mono HB.out.size);obtain⟨c1,c3,c4,c5,c6⟩:=HNC.out _ hb;have HB:=yH hb;clear hb))
              go_ret;exact⟨ret_bool HV.out,HBW.out _ HB.out⟩
            · cases A
              · go_enter Tryz.func117,Tryz.ntmps117
                go_wp2_with (first
                  |(go_at_call 146;refine(HCM.out _ (HBW.out _ HB.out)).mono ?_;rintro e w1 ⟨rfl,hb⟩;have hb:=HB.out.trans (hb.mono HB.out.size);obtain⟨c1,c3,c4,c5,c6⟩:=HNC.out _ hb;have HB:=yH hb;clear hb)
                  |(go_at_call 147;refine(HRS.out _).mono ?_;rintro e w3 ⟨rfl,rfl⟩)
                  |(go_at_call 148;refine(HNM.out _).mono ?_;rintro e w1 ⟨rfl,hb⟩;have hb:=HB.out.trans (hb.mono HB.out.size);obtain⟨c1,c3,c4,c5,c6⟩:=HNC.out _ hb;have HB:=yH hb;clear hb)
                  |(go_at_call 149;refine(HWD.out _ (HBW.out _ HB.out)).mono ?_;rintro e w1 ⟨rfl,hb⟩;have hb:=HB.out.trans (hb.mono HB.out.size);obtain⟨c1,c3,c4,c5,c6⟩:=HNC.out _ hb;have HB:=yH hb;clear hb)
                  |(go_at_call 151;refine(HPT.out _ (HBW.out _ HB.out)).mono ?_;rintro e w1 ⟨rfl,hb⟩;have hb:=HB.out.trans (hb.mono HB.out.size);obtain⟨c1,c3,c4,c5,c6⟩:=HNC.out _ hb;have HB:=yH hb;clear hb)
                  |(go_at_call 153;refine(HAS.out _ (HBW.out _ HB.out)).mono ?_;rintro e w1 ⟨rfl,hb⟩;have hb:=HB.out.trans (hb.mono HB.out.size);obtain⟨c1,c3,c4,c5,c6⟩:=HNC.out _ hb;have HB:=yH hb;clear hb)
                  |(go_at_call 155;refine(HRD.out _ (HBW.out _ HB.out)).mono ?_;rintro e w1 ⟨rfl,hb⟩;have hb:=HB.out.trans (hb.mono HB.out.size);obtain⟨c1,c3,c4,c5,c6⟩:=HNC.out _ hb;have HB:=yH hb;clear hb))
                go_ret;exact⟨ret_bool HV.out,HBW.out _ HB.out⟩
              · go_enter Tryz.func117,Tryz.ntmps117
                go_wp2_with (first
                  |(go_at_call 146;refine(HCM.out _ (HBW.out _ HB.out)).mono ?_;rintro e w1 ⟨rfl,hb⟩;have hb:=HB.out.trans (hb.mono HB.out.size);obtain⟨c1,c3,c4,c5,c6⟩:=HNC.out _ hb;have HB:=yH hb;clear hb)
                  |(go_at_call 147;refine(HRS.out _).mono ?_;rintro e w3 ⟨rfl,rfl⟩)
                  |(go_at_call 148;refine(HNM.out _).mono ?_;rintro e w1 ⟨rfl,hb⟩;have hb:=HB.out.trans (hb.mono HB.out.size);obtain⟨c1,c3,c4,c5,c6⟩:=HNC.out _ hb;have HB:=yH hb;clear hb)
                  |(go_at_call 149;refine(HWD.out _ (HBW.out _ HB.out)).mono ?_;rintro e w1 ⟨rfl,hb⟩;have hb:=HB.out.trans (hb.mono HB.out.size);obtain⟨c1,c3,c4,c5,c6⟩:=HNC.out _ hb;have HB:=yH hb;clear hb)
                  |(go_at_call 151;refine(HPT.out _ (HBW.out _ HB.out)).mono ?_;rintro e w1 ⟨rfl,hb⟩;have hb:=HB.out.trans (hb.mono HB.out.size);obtain⟨c1,c3,c4,c5,c6⟩:=HNC.out _ hb;have HB:=yH hb;clear hb)
                  |(go_at_call 153;refine(HAS.out _ (HBW.out _ HB.out)).mono ?_;rintro e w1 ⟨rfl,hb⟩;have hb:=HB.out.trans (hb.mono HB.out.size);obtain⟨c1,c3,c4,c5,c6⟩:=HNC.out _ hb;have HB:=yH hb;clear hb)
                  |(go_at_call 155;refine(HRD.out _ (HBW.out _ HB.out)).mono ?_;rintro e w1 ⟨rfl,hb⟩;have hb:=HB.out.trans (hb.mono HB.out.size);obtain⟨c1,c3,c4,c5,c6⟩:=HNC.out _ hb;have HB:=yH hb;clear hb))
                go_ret;exact⟨ret_bool HV.out,HBW.out _ HB.out⟩
      · cases W
        · go_enter Tryz.func117,Tryz.ntmps117
          go_wp2_with (first
            |(go_at_call 146;refine(HCM.out _ (HBW.out _ HB.out)).mono ?_;rintro e w1 ⟨rfl,hb⟩;have hb:=HB.out.trans (hb.mono HB.out.size);obtain⟨c1,c3,c4,c5,c6⟩:=HNC.out _ hb;have HB:=yH hb;clear hb)
            |(go_at_call 147;refine(HRS.out _).mono ?_;rintro e w3 ⟨rfl,rfl⟩)
            |(go_at_call 148;refine(HNM.out _).mono ?_;rintro e w1 ⟨rfl,hb⟩;have hb:=HB.out.trans (hb.mono HB.out.size);obtain⟨c1,c3,c4,c5,c6⟩:=HNC.out _ hb;have HB:=yH hb;clear hb)
            |(go_at_call 149;refine(HWD.out _ (HBW.out _ HB.out)).mono ?_;rintro e w1 ⟨rfl,hb⟩;have hb:=HB.out.trans (hb.mono HB.out.size);obtain⟨c1,c3,c4,c5,c6⟩:=HNC.out _ hb;have HB:=yH hb;clear hb)
            |(go_at_call 151;refine(HPT.out _ (HBW.out _ HB.out)).mono ?_;rintro e w1 ⟨rfl,hb⟩;have hb:=HB.out.trans (hb.mono HB.out.size);obtain⟨c1,c3,c4,c5,c6⟩:=HNC.out _ hb;have HB:=yH hb;clear hb)
            |(go_at_call 153;refine(HAS.out _ (HBW.out _ HB.out)).mono ?_;rintro e w1 ⟨rfl,hb⟩;have hb:=HB.out.trans (hb.mono HB.out.size);obtain⟨c1,c3,c4,c5,c6⟩:=HNC.out _ hb;have HB:=yH hb;clear hb)
            |(go_at_call 155;refine(HRD.out _ (HBW.out _ HB.out)).mono ?_;rintro e w1 ⟨rfl,hb⟩;have hb:=HB.out.trans (hb.mono HB.out.size);obtain⟨c1,c3,c4,c5,c6⟩:=HNC.out _ hb;have HB:=yH hb;clear hb))
          go_ret;exact⟨ret_bool HV.out,HBW.out _ HB.out⟩
        · cases P
          · go_enter Tryz.func117,Tryz.ntmps117
            go_wp2_with (first
              |(go_at_call 146;refine(HCM.out _ (HBW.out _ HB.out)).mono ?_;rintro e w1 ⟨rfl,hb⟩;have hb:=HB.out.trans (hb.mono HB.out.size);obtain⟨c1,c3,c4,c5,c6⟩:=HNC.out _ hb;have HB:=yH hb;clear hb)
              |(go_at_call 147;refine(HRS.out _).mono ?_;rintro e w3 ⟨rfl,rfl⟩)
              |(go_at_call 148;refine(HNM.out _).mono ?_;rintro e w1 ⟨rfl,hb⟩;have hb:=HB.out.trans (hb.mono HB.out.size);obtain⟨c1,c3,c4,c5,c6⟩:=HNC.out _ hb;have HB:=yH hb;clear hb)
              |(go_at_call 149;refine(HWD.out _ (HBW.out _ HB.out)).mono ?_;rintro e w1 ⟨rfl,hb⟩;have hb:=HB.out.trans (hb.mono HB.out.size);obtain⟨c1,c3,c4,c5,c6⟩:=HNC.out _ hb;have HB:=yH hb;clear hb)
              |(go_at_call 151;refine(HPT.out _ (HBW.out _ HB.out)).mono ?_;rintro e w1 ⟨rfl,hb⟩;have hb:=HB.out.trans (hb.mono HB.out.size);obtain⟨c1,c3,c4,c5,c6⟩:=HNC.out _ hb;have HB:=yH hb;clear hb)
              |(go_at_call 153;refine(HAS.out _ (HBW.out _ HB.out)).mono ?_;rintro e w1 ⟨rfl,hb⟩;have hb:=HB.out.trans (hb.mono HB.out.size);obtain⟨c1,c3,c4,c5,c6⟩:=HNC.out _ hb;have HB:=yH hb;clear hb)
              |(go_at_call 155;refine(HRD.out _ (HBW.out _ HB.out)).mono ?_;rintro e w1 ⟨rfl,hb⟩;have hb:=HB.out.trans (hb.mono HB.out.size);obtain⟨c1,c3,c4,c5,c6⟩:=HNC.out _ hb;have HB:=yH hb;clear hb))
            go_ret;exact⟨ret_bool HV.out,HBW.out _ HB.out⟩
          · cases A
            · go_enter Tryz.func117,Tryz.ntmps117
              go_wp2_with (first
                |(go_at_call 146;refine(HCM.out _ (HBW.out _ HB.out)).mono ?_;rintro e w1 ⟨rfl,hb⟩;have hb:=HB.out.trans (hb.mono HB.out.size);obtain⟨c1,c3,c4,c5,c6⟩:=HNC.out _ hb;have HB:=yH hb;clear hb)
                |(go_at_call 147;refine(HRS.out _).mono ?_;rintro e w3 ⟨rfl,rfl⟩)
                |(go_at_call 148;refine(HNM.out _).mono ?_;rintro e w1 ⟨rfl,hb⟩;have hb:=HB.out.trans (hb.mono HB.out.size);obtain⟨c1,c3,c4,c5,c6⟩:=HNC.out _ hb;have HB:=yH hb;clear hb)
                |(go_at_call 149;refine(HWD.out _ (HBW.out _ HB.out)).mono ?_;rintro e w1 ⟨rfl,hb⟩;have hb:=HB.out.trans (hb.mono HB.out.size);obtain⟨c1,c3,c4,c5,c6⟩:=HNC.out _ hb;have HB:=yH hb;clear hb)
                |(go_at_call 151;refine(HPT.out _ (HBW.out _ HB.out)).mono ?_;rintro e w1 ⟨rfl,hb⟩;have hb:=HB.out.trans (hb.mono HB.out.size);obtain⟨c1,c3,c4,c5,c6⟩:=HNC.out _ hb;have HB:=yH hb;clear hb)
                |(go_at_call 153;refine(HAS.out _ (HBW.out _ HB.out)).mono ?_;rintro e w1 ⟨rfl,hb⟩;have hb:=HB.out.trans (hb.mono HB.out.size);obtain⟨c1,c3,c4,c5,c6⟩:=HNC.out _ hb;have HB:=yH hb;clear hb)
                |(go_at_call 155;refine(HRD.out _ (HBW.out _ HB.out)).mono ?_;rintro e w1 ⟨rfl,hb⟩;have hb:=HB.out.trans (hb.mono HB.out.size);obtain⟨c1,c3,c4,c5,c6⟩:=HNC.out _ hb;have HB:=yH hb;clear hb))
              go_ret;exact⟨ret_bool HV.out,HBW.out _ HB.out⟩
            · go_enter Tryz.func117,Tryz.ntmps117
              go_wp2_with (first
                |(go_at_call 146;refine(HCM.out _ (HBW.out _ HB.out)).mono ?_;rintro e w1 ⟨rfl,hb⟩;have hb:=HB.out.trans (hb.mono HB.out.size);obtain⟨c1,c3,c4,c5,c6⟩:=HNC.out _ hb;have HB:=yH hb;clear hb)
                |(go_at_call 147;refine(HRS.out _).mono ?_;rintro e w3 ⟨rfl,rfl⟩)
                |(go_at_call 148;refine(HNM.out _).mono ?_;rintro e w1 ⟨rfl,hb⟩;have hb:=HB.out.trans (hb.mono HB.out.size);obtain⟨c1,c3,c4,c5,c6⟩:=HNC.out _ hb;have HB:=yH hb;clear hb)
                |(go_at_call 149;refine(HWD.out _ (HBW.out _ HB.out)).mono ?_;rintro e w1 ⟨rfl,hb⟩;have hb:=HB.out.trans (hb.mono HB.out.size);obtain⟨c1,c3,c4,c5,c6⟩:=HNC.out _ hb;have HB:=yH hb;clear hb)
                |(go_at_call 151;refine(HPT.out _ (HBW.out _ HB.out)).mono ?_;rintro e w1 ⟨rfl,hb⟩;have hb:=HB.out.trans (hb.mono HB.out.size);obtain⟨c1,c3,c4,c5,c6⟩:=HNC.out _ hb;have HB:=yH hb;clear hb)
                |(go_at_call 153;refine(HAS.out _ (HBW.out _ HB.out)).mono ?_;rintro e w1 ⟨rfl,hb⟩;have hb:=HB.out.trans (hb.mono HB.out.size);obtain⟨c1,c3,c4,c5,c6⟩:=HNC.out _ hb;have HB:=yH hb;clear hb)
                |(go_at_call 155;refine(HRD.out _ (HBW.out _ HB.out)).mono ?_;rintro e w1 ⟨rfl,hb⟩;have hb:=HB.out.trans (hb.mono HB.out.size);obtain⟨c1,c3,c4,c5,c6⟩:=HNC.out _ hb;have HB:=yH hb;clear hb))
              go_ret;exact⟨ret_bool HV.out,HBW.out _ HB.out⟩
  · have HV:=yH (show((!RS)&&((E||N)&&(W&&(P&&(A&&D)))))=R from by rw[←HR.out,hbg])
    clear HR hbg
    cases RS
    · cases E
      · cases N
        · go_enter Tryz.func117,Tryz.ntmps117
          go_wp2_with (first
            |(go_at_call 146;refine(HCM.out _ (HBW.out _ HB.out)).mono ?_;rintro e w1 ⟨rfl,hb⟩;have hb:=HB.out.trans (hb.mono HB.out.size);obtain⟨c1,c3,c4,c5,c6⟩:=HNC.out _ hb;have HB:=yH hb;clear hb)
            |(go_at_call 147;refine(HRS.out _).mono ?_;rintro e w3 ⟨rfl,rfl⟩)
            |(go_at_call 148;refine(HNM.out _).mono ?_;rintro e w1 ⟨rfl,hb⟩;have hb:=HB.out.trans (hb.mono HB.out.size);obtain⟨c1,c3,c4,c5,c6⟩:=HNC.out _ hb;have HB:=yH hb;clear hb)
            |(go_at_call 149;refine(HWD.out _ (HBW.out _ HB.out)).mono ?_;rintro e w1 ⟨rfl,hb⟩;have hb:=HB.out.trans (hb.mono HB.out.size);obtain⟨c1,c3,c4,c5,c6⟩:=HNC.out _ hb;have HB:=yH hb;clear hb)
            |(go_at_call 151;refine(HPT.out _ (HBW.out _ HB.out)).mono ?_;rintro e w1 ⟨rfl,hb⟩;have hb:=HB.out.trans (hb.mono HB.out.size);obtain⟨c1,c3,c4,c5,c6⟩:=HNC.out _ hb;have HB:=yH hb;clear hb)
            |(go_at_call 153;refine(HAS.out _ (HBW.out _ HB.out)).mono ?_;rintro e w1 ⟨rfl,hb⟩;have hb:=HB.out.trans (hb.mono HB.out.size);obtain⟨c1,c3,c4,c5,c6⟩:=HNC.out _ hb;have HB:=yH hb;clear hb)
            |(go_at_call 155;refine(HRD.out _ (HBW.out _ HB.out)).mono ?_;rintro e w1 ⟨rfl,hb⟩;have hb:=HB.out.trans (hb.mono HB.out.size);obtain⟨c1,c3,c4,c5,c6⟩:=HNC.out _ hb;have HB:=yH hb;clear hb))
          go_ret;exact⟨ret_bool HV.out,HBW.out _ HB.out⟩
        · cases W
          · go_enter Tryz.func117,Tryz.ntmps117
            go_wp2_with (first
              |(go_at_call 146;refine(HCM.out _ (HBW.out _ HB.out)).mono ?_;rintro e w1 ⟨rfl,hb⟩;have hb:=HB.out.trans (hb.mono HB.out.size);obtain⟨c1,c3,c4,c5,c6⟩:=HNC.out _ hb;have HB:=yH hb;clear hb)
              |(go_at_call 147;refine(HRS.out _).mono ?_;rintro e w3 ⟨rfl,rfl⟩)
              |(go_at_call 148;refine(HNM.out _).mono ?_;rintro e w1 ⟨rfl,hb⟩;have hb:=HB.out.trans (hb.mono HB.out.size);obtain⟨c1,c3,c4,c5,c6⟩:=HNC.out _ hb;have HB:=yH hb;clear hb)
              |(go_at_call 149;refine(HWD.out _ (HBW.out _ HB.out)).mono ?_;rintro e w1 ⟨rfl,hb⟩;have hb:=HB.out.trans (hb.mono HB.out.size);obtain⟨c1,c3,c4,c5,c6⟩:=HNC.out _ hb;have HB:=yH hb;clear hb)
              |(go_at_call 151;refine(HPT.out _ (HBW.out _ HB.out)).mono ?_;rintro e w1 ⟨rfl,hb⟩;have hb:=HB.out.trans (hb.mono HB.out.size);obtain⟨c1,c3,c4,c5,c6⟩:=HNC.out _ hb;have HB:=yH hb;clear hb)
              |(go_at_call 153;refine(HAS.out _ (HBW.out _ HB.out)).mono ?_;rintro e w1 ⟨rfl,hb⟩;have hb:=HB.out.trans (hb.mono HB.out.size);obtain⟨c1,c3,c4,c5,c6⟩:=HNC.out _ hb;have HB:=yH hb;clear hb)
              |(go_at_call 155;refine(HRD.out _ (HBW.out _ HB.out)).mono ?_;rintro e w1 ⟨rfl,hb⟩;have hb:=HB.out.trans (hb.mono HB.out.size);obtain⟨c1,c3,c4,c5,c6⟩:=HNC.out _ hb;have HB:=yH hb;clear hb))
            go_ret;exact⟨ret_bool HV.out,HBW.out _ HB.out⟩
          · cases P
            · go_enter Tryz.func117,Tryz.ntmps117
              go_wp2_with (first
                |(go_at_call 146;refine(HCM.out _ (HBW.out _ HB.out)).mono ?_;rintro e w1 ⟨rfl,hb⟩;have hb:=HB.out.trans (hb.mono HB.out.size);obtain⟨c1,c3,c4,c5,c6⟩:=HNC.out _ hb;have HB:=yH hb;clear hb)
                |(go_at_call 147;refine(HRS.out _).mono ?_;rintro e w3 ⟨rfl,rfl⟩)
                |(go_at_call 148;refine(HNM.out _).mono ?_;rintro e w1 ⟨rfl,hb⟩;have hb:=HB.out.trans (hb.mono HB.out.size);obtain⟨c1,c3,c4,c5,c6⟩:=HNC.out _ hb;have HB:=yH hb;clear hb)
                |(go_at_call 149;refine(HWD.out _ (HBW.out _ HB.out)).mono ?_;rintro e w1 ⟨rfl,hb⟩;have hb:=HB.out.trans (hb.mono HB.out.size);obtain⟨c1,c3,c4,c5,c6⟩:=HNC.out _ hb;have HB:=yH hb;clear hb)
                |(go_at_call 151;refine(HPT.out _ (HBW.out _ HB.out)).mono ?_;rintro e w1 ⟨rfl,hb⟩;have hb:=HB.out.trans (hb.mono HB.out.size);obtain⟨c1,c3,c4,c5,c6⟩:=HNC.out _ hb;have HB:=yH hb;clear hb)
                |(go_at_call 153;refine(HAS.out _ (HBW.out _ HB.out)).mono ?_;rintro e w1 ⟨rfl,hb⟩;have hb:=HB.out.trans (hb.mono HB.out.size);obtain⟨c1,c3,c4,c5,c6⟩:=HNC.out _ hb;have HB:=yH hb;clear hb)
                |(go_at_call 155;refine(HRD.out _ (HBW.out _ HB.out)).mono ?_;rintro e w1 ⟨rfl,hb⟩;have hb:=HB.out.trans (hb.mono HB.out.size);obtain⟨c1,c3,c4,c5,c6⟩:=HNC.out _ hb;have HB:=yH hb;clear hb))
              go_ret;exact⟨ret_bool HV.out,HBW.out _ HB.out⟩
            · cases A
              · go_enter Tryz.func117,Tryz.ntmps117
                go_wp2_with (first
                  |(go_at_call 146;refine(HCM.out _ (HBW.out _ HB.out)).mono ?_;rintro e w1 ⟨rfl,hb⟩;have hb:=HB.out.trans (hb.mono HB.out.size);obtain⟨c1,c3,c4,c5,c6⟩:=HNC.out _ hb;have HB:=yH hb;clear hb)
                  |(go_at_call 147;refine(HRS.out _).mono ?_;rintro e w3 ⟨rfl,rfl⟩)
                  |(go_at_call 148;refine(HNM.out _).mono ?_;rintro e w1 ⟨rfl,hb⟩;have hb:=HB.out.trans (hb.mono HB.out.size);obtain⟨c1,c3,c4,c5,c6⟩:=HNC.out _ hb;have HB:=yH hb;clear hb)
                  |(go_at_call 149;refine(HWD.out _ (HBW.out _ HB.out)).mono ?_;rintro e w1 ⟨rfl,hb⟩;have hb:=HB.out.trans (hb.mono HB.out.size);obtain⟨c1,c3,c4,c5,c6⟩:=HNC.out _ hb;have HB:=yH hb;clear hb)
                  |(go_at_call 151;refine(HPT.out _ (HBW.out _ HB.out)).mono ?_;rintro e w1 ⟨rfl,hb⟩;have hb:=HB.out.trans (hb.mono HB.out.size);obtain⟨c1,c3,c4,c5,c6⟩:=HNC.out _ hb;have HB:=yH hb;clear hb)
                  |(go_at_call 153;refine(HAS.out _ (HBW.out _ HB.out)).mono ?_;rintro e w1 ⟨rfl,hb⟩;have hb:=HB.out.trans (hb.mono HB.out.size);obtain⟨c1,c3,c4,c5,c6⟩:=HNC.out _ hb;have HB:=yH hb;clear hb)
                  |(go_at_call 155;refine(HRD.out _ (HBW.out _ HB.out)).mono ?_;rintro e w1 ⟨rfl,hb⟩;have hb:=HB.out.trans (hb.mono HB.out.size);obtain⟨c1,c3,c4,c5,c6⟩:=HNC.out _ hb;have HB:=yH hb;clear hb))
                go_ret;exact⟨ret_bool HV.out,HBW.out _ HB.out⟩
              · go_enter Tryz.func117,Tryz.ntmps117
                go_wp2_with (first
                  |(go_at_call 146;refine(HCM.out _ (HBW.out _ HB.out)).mono ?_;rintro e w1 ⟨rfl,hb⟩;have hb:=HB.out.trans (hb.mono HB.out.size);obtain⟨c1,c3,c4,c5,c6⟩:=HNC.out _ hb;have HB:=yH hb;clear hb)
                  |(go_at_call 147;refine(HRS.out _).mono ?_;rintro e w3 ⟨rfl,rfl⟩)
                  |(go_at_call 148;refine(HNM.out _).mono ?_;rintro e w1 ⟨rfl,hb⟩;have hb:=HB.out.trans (hb.mono HB.out.size);obtain⟨c1,c3,c4,c5,c6⟩:=HNC.out _ hb;have HB:=yH hb;clear hb)
                  |(go_at_call 149;refine(HWD.out _ (HBW.out _ HB.out)).mono ?_;rintro e w1 ⟨rfl,hb⟩;have hb:=HB.out.trans (hb.mono HB.out.size);obtain⟨c1,c3,c4,c5,c6⟩:=HNC.out _ hb;have HB:=yH hb;clear hb)
                  |(go_at_call 151;refine(HPT.out _ (HBW.out _ HB.out)).mono ?_;rintro e w1 ⟨rfl,hb⟩;have hb:=HB.out.trans (hb.mono HB.out.size);obtain⟨c1,c3,c4,c5,c6⟩:=HNC.out _ hb;have HB:=yH hb;clear hb)
                  |(go_at_call 153;refine(HAS.out _ (HBW.out _ HB.out)).mono ?_;rintro e w1 ⟨rfl,hb⟩;have hb:=HB.out.trans (hb.mono HB.out.size);obtain⟨c1,c3,c4,c5,c6⟩:=HNC.out _ hb;have HB:=yH hb;clear hb)
                  |(go_at_call 155;refine(HRD.out _ (HBW.out _ HB.out)).mono ?_;rintro e w1 ⟨rfl,hb⟩;have hb:=HB.out.trans (hb.mono HB.out.size);obtain⟨c1,c3,c4,c5,c6⟩:=HNC.out _ hb;have HB:=yH hb;clear hb))
                go_ret;exact⟨ret_bool HV.out,HBW.out _ HB.out⟩
      · cases W
        · go_enter Tryz.func117,Tryz.ntmps117
          go_wp2_with (first
            |(go_at_call 146;refine(HCM.out _ (HBW.out _ HB.out)).mono ?_;rintro e w1 ⟨rfl,hb⟩;have hb:=HB.out.trans (hb.mono HB.out.size);obtain⟨c1,c3,c4,c5,c6⟩:=HNC.out _ hb;have HB:=yH hb;clear hb)
            |(go_at_call 147;refine(HRS.out _).mono ?_;rintro e w3 ⟨rfl,rfl⟩)
            |(go_at_call 148;refine(HNM.out _).mono ?_;rintro e w1 ⟨rfl,hb⟩;have hb:=HB.out.trans (hb.mono HB.out.size);obtain⟨c1,c3,c4,c5,c6⟩:=HNC.out _ hb;have HB:=yH hb;clear hb)
            |(go_at_call 149;refine(HWD.out _ (HBW.out _ HB.out)).mono ?_;rintro e w1 ⟨rfl,hb⟩;have hb:=HB.out.trans (hb.mono HB.out.size);obtain⟨c1,c3,c4,c5,c6⟩:=HNC.out _ hb;have HB:=yH hb;clear hb)
            |(go_at_call 151;refine(HPT.out _ (HBW.out _ HB.out)).mono ?_;rintro e w1 ⟨rfl,hb⟩;have hb:=HB.out.trans (hb.mono HB.out.size);obtain⟨c1,c3,c4,c5,c6⟩:=HNC.out _ hb;have HB:=yH hb;clear hb)
            |(go_at_call 153;refine(HAS.out _ (HBW.out _ HB.out)).mono ?_;rintro e w1 ⟨rfl,hb⟩;have hb:=HB.out.trans (hb.mono HB.out.size);obtain⟨c1,c3,c4,c5,c6⟩:=HNC.out _ hb;have HB:=yH hb;clear hb)
            |(go_at_call 155;refine(HRD.out _ (HBW.out _ HB.out)).mono ?_;rintro e w1 ⟨rfl,hb⟩;have hb:=HB.out.trans (hb.mono HB.out.size);obtain⟨c1,c3,c4,c5,c6⟩:=HNC.out _ hb;have HB:=yH hb;clear hb))
          go_ret;exact⟨ret_bool HV.out,HBW.out _ HB.out⟩
        · cases P
          · go_enter Tryz.func117,Tryz.ntmps117
            go_wp2_with (first
              |(go_at_call 146;refine(HCM.out _ (HBW.out _ HB.out)).mono ?_;rintro e w1 ⟨rfl,hb⟩;have hb:=HB.out.trans (hb.mono HB.out.size);obtain⟨c1,c3,c4,c5,c6⟩:=HNC.out _ hb;have HB:=yH hb;clear hb)
              |(go_at_call 147;refine(HRS.out _).mono ?_;rintro e w3 ⟨rfl,rfl⟩)
              |(go_at_call 148;refine(HNM.out _).mono ?_;rintro e w1 ⟨rfl,hb⟩;have hb:=HB.out.trans (hb.mono HB.out.size);obtain⟨c1,c3,c4,c5,c6⟩:=HNC.out _ hb;have HB:=yH hb;clear hb)
              |(go_at_call 149;refine(HWD.out _ (HBW.out _ HB.out)).mono ?_;rintro e w1 ⟨rfl,hb⟩;have hb:=HB.out.trans (hb.mono HB.out.size);obtain⟨c1,c3,c4,c5,c6⟩:=HNC.out _ hb;have HB:=yH hb;clear hb)
              |(go_at_call 151;refine(HPT.out _ (HBW.out _ HB.out)).mono ?_;rintro e w1 ⟨rfl,hb⟩;have hb:=HB.out.trans (hb.mono HB.out.size);obtain⟨c1,c3,c4,c5,c6⟩:=HNC.out _ hb;have HB:=yH hb;clear hb)
              |(go_at_call 153;refine(HAS.out _ (HBW.out _ HB.out)).mono ?_;rintro e w1 ⟨rfl,hb⟩;have hb:=HB.out.trans (hb.mono HB.out.size);obtain⟨c1,c3,c4,c5,c6⟩:=HNC.out _ hb;have HB:=yH hb;clear hb)
              |(go_at_call 155;refine(HRD.out _ (HBW.out _ HB.out)).mono ?_;rintro e w1 ⟨rfl,hb⟩;have hb:=HB.out.trans (hb.mono HB.out.size);obtain⟨c1,c3,c4,c5,c6⟩:=HNC.out _ hb;have HB:=yH hb;clear hb))
            go_ret;exact⟨ret_bool HV.out,HBW.out _ HB.out⟩
          · cases A
            · go_enter Tryz.func117,Tryz.ntmps117
              go_wp2_with (first
                |(go_at_call 146;refine(HCM.out _ (HBW.out _ HB.out)).mono ?_;rintro e w1 ⟨rfl,hb⟩;have hb:=HB.out.trans (hb.mono HB.out.size);obtain⟨c1,c3,c4,c5,c6⟩:=HNC.out _ hb;have HB:=yH hb;clear hb)
                |(go_at_call 147;refine(HRS.out _).mono ?_;rintro e w3 ⟨rfl,rfl⟩)
                |(go_at_call 148;refine(HNM.out _).mono ?_;rintro e w1 ⟨rfl,hb⟩;have hb:=HB.out.trans (hb.mono HB.out.size);obtain⟨c1,c3,c4,c5,c6⟩:=HNC.out _ hb;have HB:=yH hb;clear hb)
                |(go_at_call 149;refine(HWD.out _ (HBW.out _ HB.out)).mono ?_;rintro e w1 ⟨rfl,hb⟩;have hb:=HB.out.trans (hb.mono HB.out.size);obtain⟨c1,c3,c4,c5,c6⟩:=HNC.out _ hb;have HB:=yH hb;clear hb)
                |(go_at_call 151;refine(HPT.out _ (HBW.out _ HB.out)).mono ?_;rintro e w1 ⟨rfl,hb⟩;have hb:=HB.out.trans (hb.mono HB.out.size);obtain⟨c1,c3,c4,c5,c6⟩:=HNC.out _ hb;have HB:=yH hb;clear hb)
                |(go_at_call 153;refine(HAS.out _ (HBW.out _ HB.out)).mono ?_;rintro e w1 ⟨rfl,hb⟩;have hb:=HB.out.trans (hb.mono HB.out.size);obtain⟨c1,c3,c4,c5,c6⟩:=HNC.out _ hb;have HB:=yH hb;clear hb)
                |(go_at_call 155;refine(HRD.out _ (HBW.out _ HB.out)).mono ?_;rintro e w1 ⟨rfl,hb⟩;have hb:=HB.out.trans (hb.mono HB.out.size);obtain⟨c1,c3,c4,c5,c6⟩:=HNC.out _ hb;have HB:=yH hb;clear hb))
              go_ret;exact⟨ret_bool HV.out,HBW.out _ HB.out⟩
            · go_enter Tryz.func117,Tryz.ntmps117
              go_wp2_with (first
                |(go_at_call 146;refine(HCM.out _ (HBW.out _ HB.out)).mono ?_;rintro e w1 ⟨rfl,hb⟩;have hb:=HB.out.trans (hb.mono HB.out.size);obtain⟨c1,c3,c4,c5,c6⟩:=HNC.out _ hb;have HB:=yH hb;clear hb)
                |(go_at_call 147;refine(HRS.out _).mono ?_;rintro e w3 ⟨rfl,rfl⟩)
                |(go_at_call 148;refine(HNM.out _).mono ?_;rintro e w1 ⟨rfl,hb⟩;have hb:=HB.out.trans (hb.mono HB.out.size);obtain⟨c1,c3,c4,c5,c6⟩:=HNC.out _ hb;have HB:=yH hb;clear hb)
                |(go_at_call 149;refine(HWD.out _ (HBW.out _ HB.out)).mono ?_;rintro e w1 ⟨rfl,hb⟩;have hb:=HB.out.trans (hb.mono HB.out.size);obtain⟨c1,c3,c4,c5,c6⟩:=HNC.out _ hb;have HB:=yH hb;clear hb)
                |(go_at_call 151;refine(HPT.out _ (HBW.out _ HB.out)).mono ?_;rintro e w1 ⟨rfl,hb⟩;have hb:=HB.out.trans (hb.mono HB.out.size);obtain⟨c1,c3,c4,c5,c6⟩:=HNC.out _ hb;have HB:=yH hb;clear hb)
                |(go_at_call 153;refine(HAS.out _ (HBW.out _ HB.out)).mono ?_;rintro e w1 ⟨rfl,hb⟩;have hb:=HB.out.trans (hb.mono HB.out.size);obtain⟨c1,c3,c4,c5,c6⟩:=HNC.out _ hb;have HB:=yH hb;clear hb)
                |(go_at_call 155;refine(HRD.out _ (HBW.out _ HB.out)).mono ?_;rintro e w1 ⟨rfl,hb⟩;have hb:=HB.out.trans (hb.mono HB.out.size);obtain⟨c1,c3,c4,c5,c6⟩:=HNC.out _ hb;have HB:=yH hb;clear hb))
              go_ret;exact⟨ret_bool HV.out,HBW.out _ HB.out⟩
    · go_enter Tryz.func117,Tryz.ntmps117
      go_wp2_with (first
        |(go_at_call 146;refine(HCM.out _ (HBW.out _ HB.out)).mono ?_;rintro e w1 ⟨rfl,hb⟩;have hb:=HB.out.trans (hb.mono HB.out.size);obtain⟨c1,c3,c4,c5,c6⟩:=HNC.out _ hb;have HB:=yH hb;clear hb)
        |(go_at_call 147;refine(HRS.out _).mono ?_;rintro e w3 ⟨rfl,rfl⟩)
        |(go_at_call 148;refine(HNM.out _).mono ?_;rintro e w1 ⟨rfl,hb⟩;have hb:=HB.out.trans (hb.mono HB.out.size);obtain⟨c1,c3,c4,c5,c6⟩:=HNC.out _ hb;have HB:=yH hb;clear hb)
        |(go_at_call 149;refine(HWD.out _ (HBW.out _ HB.out)).mono ?_;rintro e w1 ⟨rfl,hb⟩;have hb:=HB.out.trans (hb.mono HB.out.size);obtain⟨c1,c3,c4,c5,c6⟩:=HNC.out _ hb;have HB:=yH hb;clear hb)
        |(go_at_call 151;refine(HPT.out _ (HBW.out _ HB.out)).mono ?_;rintro e w1 ⟨rfl,hb⟩;have hb:=HB.out.trans (hb.mono HB.out.size);obtain⟨c1,c3,c4,c5,c6⟩:=HNC.out _ hb;have HB:=yH hb;clear hb)
        |(go_at_call 153;refine(HAS.out _ (HBW.out _ HB.out)).mono ?_;rintro e w1 ⟨rfl,hb⟩;have hb:=HB.out.trans (hb.mono HB.out.size);obtain⟨c1,c3,c4,c5,c6⟩:=HNC.out _ hb;have HB:=yH hb;clear hb)
        |(go_at_call 155;refine(HRD.out _ (HBW.out _ HB.out)).mono ?_;rintro e w1 ⟨rfl,hb⟩;have hb:=HB.out.trans (hb.mono HB.out.size);obtain⟨c1,c3,c4,c5,c6⟩:=HNC.out _ hb;have HB:=yH hb;clear hb))
      go_ret;exact⟨ret_bool HV.out,HBW.out _ HB.out⟩
  · have HV:=yH (show(true&&((E||N)&&(W&&(P&&(A&&D)))))=R from by rw[←HR.out,hbg])
    clear HR hbg
    cases E
    · cases N
      · go_enter Tryz.func117,Tryz.ntmps117
        go_wp2_with (first
          |(go_at_call 146;refine(HCM.out _ (HBW.out _ HB.out)).mono ?_;rintro e w1 ⟨rfl,hb⟩;have hb:=HB.out.trans (hb.mono HB.out.size);obtain⟨c1,c3,c4,c5,c6⟩:=HNC.out _ hb;have HB:=yH hb;clear hb)
          |(go_at_call 147;refine(HRS.out _).mono ?_;rintro e w3 ⟨rfl,rfl⟩)
          |(go_at_call 148;refine(HNM.out _).mono ?_;rintro e w1 ⟨rfl,hb⟩;have hb:=HB.out.trans (hb.mono HB.out.size);obtain⟨c1,c3,c4,c5,c6⟩:=HNC.out _ hb;have HB:=yH hb;clear hb)
          |(go_at_call 149;refine(HWD.out _ (HBW.out _ HB.out)).mono ?_;rintro e w1 ⟨rfl,hb⟩;have hb:=HB.out.trans (hb.mono HB.out.size);obtain⟨c1,c3,c4,c5,c6⟩:=HNC.out _ hb;have HB:=yH hb;clear hb)
          |(go_at_call 151;refine(HPT.out _ (HBW.out _ HB.out)).mono ?_;rintro e w1 ⟨rfl,hb⟩;have hb:=HB.out.trans (hb.mono HB.out.size);obtain⟨c1,c3,c4,c5,c6⟩:=HNC.out _ hb;have HB:=yH hb;clear hb)
          |(go_at_call 153;refine(HAS.out _ (HBW.out _ HB.out)).mono ?_;rintro e w1 ⟨rfl,hb⟩;have hb:=HB.out.trans (hb.mono HB.out.size);obtain⟨c1,c3,c4,c5,c6⟩:=HNC.out _ hb;have HB:=yH hb;clear hb)
          |(go_at_call 155;refine(HRD.out _ (HBW.out _ HB.out)).mono ?_;rintro e w1 ⟨rfl,hb⟩;have hb:=HB.out.trans (hb.mono HB.out.size);obtain⟨c1,c3,c4,c5,c6⟩:=HNC.out _ hb;have HB:=yH hb;clear hb))
        go_ret;exact⟨ret_bool HV.out,HBW.out _ HB.out⟩
      · cases W
        · go_enter Tryz.func117,Tryz.ntmps117
          go_wp2_with (first
            |(go_at_call 146;refine(HCM.out _ (HBW.out _ HB.out)).mono ?_;rintro e w1 ⟨rfl,hb⟩;have hb:=HB.out.trans (hb.mono HB.out.size);obtain⟨c1,c3,c4,c5,c6⟩:=HNC.out _ hb;have HB:=yH hb;clear hb)
            |(go_at_call 147;refine(HRS.out _).mono ?_;rintro e w3 ⟨rfl,rfl⟩)
            |(go_at_call 148;refine(HNM.out _).mono ?_;rintro e w1 ⟨rfl,hb⟩;have hb:=HB.out.trans (hb.mono HB.out.size);obtain⟨c1,c3,c4,c5,c6⟩:=HNC.out _ hb;have HB:=yH hb;clear hb)
            |(go_at_call 149;refine(HWD.out _ (HBW.out _ HB.out)).mono ?_;rintro e w1 ⟨rfl,hb⟩;have hb:=HB.out.trans (hb.mono HB.out.size);obtain⟨c1,c3,c4,c5,c6⟩:=HNC.out _ hb;have HB:=yH hb;clear hb)
            |(go_at_call 151;refine(HPT.out _ (HBW.out _ HB.out)).mono ?_;rintro e w1 ⟨rfl,hb⟩;have hb:=HB.out.trans (hb.mono HB.out.size);obtain⟨c1,c3,c4,c5,c6⟩:=HNC.out _ hb;have HB:=yH hb;clear hb)
            |(go_at_call 153;refine(HAS.out _ (HBW.out _ HB.out)).mono ?_;rintro e w1 ⟨rfl,hb⟩;have hb:=HB.out.trans (hb.mono HB.out.size);obtain⟨c1,c3,c4,c5,c6⟩:=HNC.out _ hb;have HB:=yH hb;clear hb)
            |(go_at_call 155;refine(HRD.out _ (HBW.out _ HB.out)).mono ?_;rintro e w1 ⟨rfl,hb⟩;have hb:=HB.out.trans (hb.mono HB.out.size);obtain⟨c1,c3,c4,c5,c6⟩:=HNC.out _ hb;have HB:=yH hb;clear hb))
          go_ret;exact⟨ret_bool HV.out,HBW.out _ HB.out⟩
        · cases P
          · go_enter Tryz.func117,Tryz.ntmps117
            go_wp2_with (first
              |(go_at_call 146;refine(HCM.out _ (HBW.out _ HB.out)).mono ?_;rintro e w1 ⟨rfl,hb⟩;have hb:=HB.out.trans (hb.mono HB.out.size);obtain⟨c1,c3,c4,c5,c6⟩:=HNC.out _ hb;have HB:=yH hb;clear hb)
              |(go_at_call 147;refine(HRS.out _).mono ?_;rintro e w3 ⟨rfl,rfl⟩)
              |(go_at_call 148;refine(HNM.out _).mono ?_;rintro e w1 ⟨rfl,hb⟩;have hb:=HB.out.trans (hb.mono HB.out.size);obtain⟨c1,c3,c4,c5,c6⟩:=HNC.out _ hb;have HB:=yH hb;clear hb)
              |(go_at_call 149;refine(HWD.out _ (HBW.out _ HB.out)).mono ?_;rintro e w1 ⟨rfl,hb⟩;have hb:=HB.out.trans (hb.mono HB.out.size);obtain⟨c1,c3,c4,c5,c6⟩:=HNC.out _ hb;have HB:=yH hb;clear hb)
              |(go_at_call 151;refine(HPT.out _ (HBW.out _ HB.out)).mono ?_;rintro e w1 ⟨rfl,hb⟩;have hb:=HB.out.trans (hb.mono HB.out.size);obtain⟨c1,c3,c4,c5,c6⟩:=HNC.out _ hb;have HB:=yH hb;clear hb)
              |(go_at_call 153;refine(HAS.out _ (HBW.out _ HB.out)).mono ?_;rintro e w1 ⟨rfl,hb⟩;have hb:=HB.out.trans (hb.mono HB.out.size);obtain⟨c1,c3,c4,c5,c6⟩:=HNC.out _ hb;have HB:=yH hb;clear hb)
              |(go_at_call 155;refine(HRD.out _ (HBW.out _ HB.out)).mono ?_;rintro e w1 ⟨rfl,hb⟩;have hb:=HB.out.trans (hb.mono HB.out.size);obtain⟨c1,c3,c4,c5,c6⟩:=HNC.out _ hb;have HB:=yH hb;clear hb))
            go_ret;exact⟨ret_bool HV.out,HBW.out _ HB.out⟩
          · cases A
            · go_enter Tryz.func117,Tryz.ntmps117
              go_wp2_with (first
                |(go_at_call 146;refine(HCM.out _ (HBW.out _ HB.out)).mono ?_;rintro e w1 ⟨rfl,hb⟩;have hb:=HB.out.trans (hb.mono HB.out.size);obtain⟨c1,c3,c4,c5,c6⟩:=HNC.out _ hb;have HB:=yH hb;clear hb)
                |(go_at_call 147;refine(HRS.out _).mono ?_;rintro e w3 ⟨rfl,rfl⟩)
                |(go_at_call 148;refine(HNM.out _).mono ?_;rintro e w1 ⟨rfl,hb⟩;have hb:=HB.out.trans (hb.mono HB.out.size);obtain⟨c1,c3,c4,c5,c6⟩:=HNC.out _ hb;have HB:=yH hb;clear hb)
                |(go_at_call 149;refine(HWD.out _ (HBW.out _ HB.out)).mono ?_;rintro e w1 ⟨rfl,hb⟩;have hb:=HB.out.trans (hb.mono HB.out.size);obtain⟨c1,c3,c4,c5,c6⟩:=HNC.out _ hb;have HB:=yH hb;clear hb)
                |(go_at_call 151;refine(HPT.out _ (HBW.out _ HB.out)).mono ?_;rintro e w1 ⟨rfl,hb⟩;have hb:=HB.out.trans (hb.mono HB.out.size);obtain⟨c1,c3,c4,c5,c6⟩:=HNC.out _ hb;have HB:=yH hb;clear hb)
                |(go_at_call 153;refine(HAS.out _ (HBW.out _ HB.out)).mono ?_;rintro e w1 ⟨rfl,hb⟩;have hb:=HB.out.trans (hb.mono HB.out.size);obtain⟨c1,c3,c4,c5,c6⟩:=HNC.out _ hb;have HB:=yH hb;clear hb)
                |(go_at_call 155;refine(HRD.out _ (HBW.out _ HB.out)).mono ?_;rintro e w1 ⟨rfl,hb⟩;have hb:=HB.out.trans (hb.mono HB.out.size);obtain⟨c1,c3,c4,c5,c6⟩:=HNC.out _ hb;have HB:=yH hb;clear hb))
              go_ret;exact⟨ret_bool HV.out,HBW.out _ HB.out⟩
            · go_enter Tryz.func117,Tryz.ntmps117
              go_wp2_with (first
                |(go_at_call 146;refine(HCM.out _ (HBW.out _ HB.out)).mono ?_;rintro e w1 ⟨rfl,hb⟩;have hb:=HB.out.trans (hb.mono HB.out.size);obtain⟨c1,c3,c4,c5,c6⟩:=HNC.out _ hb;have HB:=yH hb;clear hb)
                |(go_at_call 147;refine(HRS.out _).mono ?_;rintro e w3 ⟨rfl,rfl⟩)
                |(go_at_call 148;refine(HNM.out _).mono ?_;rintro e w1 ⟨rfl,hb⟩;have hb:=HB.out.trans (hb.mono HB.out.size);obtain⟨c1,c3,c4,c5,c6⟩:=HNC.out _ hb;have HB:=yH hb;clear hb)
                |(go_at_call 149;refine(HWD.out _ (HBW.out _ HB.out)).mono ?_;rintro e w1 ⟨rfl,hb⟩;have hb:=HB.out.trans (hb.mono HB.out.size);obtain⟨c1,c3,c4,c5,c6⟩:=HNC.out _ hb;have HB:=yH hb;clear hb)
                |(go_at_call 151;refine(HPT.out _ (HBW.out _ HB.out)).mono ?_;rintro e w1 ⟨rfl,hb⟩;have hb:=HB.out.trans (hb.mono HB.out.size);obtain⟨c1,c3,c4,c5,c6⟩:=HNC.out _ hb;have HB:=yH hb;clear hb)
                |(go_at_call 153;refine(HAS.out _ (HBW.out _ HB.out)).mono ?_;rintro e w1 ⟨rfl,hb⟩;have hb:=HB.out.trans (hb.mono HB.out.size);obtain⟨c1,c3,c4,c5,c6⟩:=HNC.out _ hb;have HB:=yH hb;clear hb)
                |(go_at_call 155;refine(HRD.out _ (HBW.out _ HB.out)).mono ?_;rintro e w1 ⟨rfl,hb⟩;have hb:=HB.out.trans (hb.mono HB.out.size);obtain⟨c1,c3,c4,c5,c6⟩:=HNC.out _ hb;have HB:=yH hb;clear hb))
              go_ret;exact⟨ret_bool HV.out,HBW.out _ HB.out⟩
    · cases W
      · go_enter Tryz.func117,Tryz.ntmps117
        go_wp2_with (first
          |(go_at_call 146;refine(HCM.out _ (HBW.out _ HB.out)).mono ?_;rintro e w1 ⟨rfl,hb⟩;have hb:=HB.out.trans (hb.mono HB.out.size);obtain⟨c1,c3,c4,c5,c6⟩:=HNC.out _ hb;have HB:=yH hb;clear hb)
          |(go_at_call 147;refine(HRS.out _).mono ?_;rintro e w3 ⟨rfl,rfl⟩)
          |(go_at_call 148;refine(HNM.out _).mono ?_;rintro e w1 ⟨rfl,hb⟩;have hb:=HB.out.trans (hb.mono HB.out.size);obtain⟨c1,c3,c4,c5,c6⟩:=HNC.out _ hb;have HB:=yH hb;clear hb)
          |(go_at_call 149;refine(HWD.out _ (HBW.out _ HB.out)).mono ?_;rintro e w1 ⟨rfl,hb⟩;have hb:=HB.out.trans (hb.mono HB.out.size);obtain⟨c1,c3,c4,c5,c6⟩:=HNC.out _ hb;have HB:=yH hb;clear hb)
          |(go_at_call 151;refine(HPT.out _ (HBW.out _ HB.out)).mono ?_;rintro e w1 ⟨rfl,hb⟩;have hb:=HB.out.trans (hb.mono HB.out.size);obtain⟨c1,c3,c4,c5,c6⟩:=HNC.out _ hb;have HB:=yH hb;clear hb)
          |(go_at_call 153;refine(HAS.out _ (HBW.out _ HB.out)).mono ?_;rintro e w1 ⟨rfl,hb⟩;have hb:=HB.out.trans (hb.mono HB.out.size);obtain⟨c1,c3,c4,c5,c6⟩:=HNC.out _ hb;have HB:=yH hb;clear hb)
          |(go_at_call 155;refine(HRD.out _ (HBW.out _ HB.out)).mono ?_;rintro e w1 ⟨rfl,hb⟩;have hb:=HB.out.trans (hb.mono HB.out.size);obtain⟨c1,c3,c4,c5,c6⟩:=HNC.out _ hb;have HB:=yH hb;clear hb))
        go_ret;exact⟨ret_bool HV.out,HBW.out _ HB.out⟩
      · cases P
        · go_enter Tryz.func117,Tryz.ntmps117
          go_wp2_with (first
            |(go_at_call 146;refine(HCM.out _ (HBW.out _ HB.out)).mono ?_;rintro e w1 ⟨rfl,hb⟩;have hb:=HB.out.trans (hb.mono HB.out.size);obtain⟨c1,c3,c4,c5,c6⟩:=HNC.out _ hb;have HB:=yH hb;clear hb)
            |(go_at_call 147;refine(HRS.out _).mono ?_;rintro e w3 ⟨rfl,rfl⟩)
            |(go_at_call 148;refine(HNM.out _).mono ?_;rintro e w1 ⟨rfl,hb⟩;have hb:=HB.out.trans (hb.mono HB.out.size);obtain⟨c1,c3,c4,c5,c6⟩:=HNC.out _ hb;have HB:=yH hb;clear hb)
            |(go_at_call 149;refine(HWD.out _ (HBW.out _ HB.out)).mono ?_;rintro e w1 ⟨rfl,hb⟩;have hb:=HB.out.trans (hb.mono HB.out.size);obtain⟨c1,c3,c4,c5,c6⟩:=HNC.out _ hb;have HB:=yH hb;clear hb)
            |(go_at_call 151;refine(HPT.out _ (HBW.out _ HB.out)).mono ?_;rintro e w1 ⟨rfl,hb⟩;have hb:=HB.out.trans (hb.mono HB.out.size);obtain⟨c1,c3,c4,c5,c6⟩:=HNC.out _ hb;have HB:=yH hb;clear hb)
            |(go_at_call 153;refine(HAS.out _ (HBW.out _ HB.out)).mono ?_;rintro e w1 ⟨rfl,hb⟩;have hb:=HB.out.trans (hb.mono HB.out.size);obtain⟨c1,c3,c4,c5,c6⟩:=HNC.out _ hb;have HB:=yH hb;clear hb)
            |(go_at_call 155;refine(HRD.out _ (HBW.out _ HB.out)).mono ?_;rintro e w1 ⟨rfl,hb⟩;have hb:=HB.out.trans (hb.mono HB.out.size);obtain⟨c1,c3,c4,c5,c6⟩:=HNC.out _ hb;have HB:=yH hb;clear hb))
          go_ret;exact⟨ret_bool HV.out,HBW.out _ HB.out⟩
        · cases A
          · go_enter Tryz.func117,Tryz.ntmps117
            go_wp2_with (first
              |(go_at_call 146;refine(HCM.out _ (HBW.out _ HB.out)).mono ?_;rintro e w1 ⟨rfl,hb⟩;have hb:=HB.out.trans (hb.mono HB.out.size);obtain⟨c1,c3,c4,c5,c6⟩:=HNC.out _ hb;have HB:=yH hb;clear hb)
              |(go_at_call 147;refine(HRS.out _).mono ?_;rintro e w3 ⟨rfl,rfl⟩)
              |(go_at_call 148;refine(HNM.out _).mono ?_;rintro e w1 ⟨rfl,hb⟩;have hb:=HB.out.trans (hb.mono HB.out.size);obtain⟨c1,c3,c4,c5,c6⟩:=HNC.out _ hb;have HB:=yH hb;clear hb)
              |(go_at_call 149;refine(HWD.out _ (HBW.out _ HB.out)).mono ?_;rintro e w1 ⟨rfl,hb⟩;have hb:=HB.out.trans (hb.mono HB.out.size);obtain⟨c1,c3,c4,c5,c6⟩:=HNC.out _ hb;have HB:=yH hb;clear hb)
              |(go_at_call 151;refine(HPT.out _ (HBW.out _ HB.out)).mono ?_;rintro e w1 ⟨rfl,hb⟩;have hb:=HB.out.trans (hb.mono HB.out.size);obtain⟨c1,c3,c4,c5,c6⟩:=HNC.out _ hb;have HB:=yH hb;clear hb)
              |(go_at_call 153;refine(HAS.out _ (HBW.out _ HB.out)).mono ?_;rintro e w1 ⟨rfl,hb⟩;have hb:=HB.out.trans (hb.mono HB.out.size);obtain⟨c1,c3,c4,c5,c6⟩:=HNC.out _ hb;have HB:=yH hb;clear hb)
              |(go_at_call 155;refine(HRD.out _ (HBW.out _ HB.out)).mono ?_;rintro e w1 ⟨rfl,hb⟩;have hb:=HB.out.trans (hb.mono HB.out.size);obtain⟨c1,c3,c4,c5,c6⟩:=HNC.out _ hb;have HB:=yH hb;clear hb))
            go_ret;exact⟨ret_bool HV.out,HBW.out _ HB.out⟩
          · go_enter Tryz.func117,Tryz.ntmps117
            go_wp2_with (first
              |(go_at_call 146;refine(HCM.out _ (HBW.out _ HB.out)).mono ?_;rintro e w1 ⟨rfl,hb⟩;have hb:=HB.out.trans (hb.mono HB.out.size);obtain⟨c1,c3,c4,c5,c6⟩:=HNC.out _ hb;have HB:=yH hb;clear hb)
              |(go_at_call 147;refine(HRS.out _).mono ?_;rintro e w3 ⟨rfl,rfl⟩)
              |(go_at_call 148;refine(HNM.out _).mono ?_;rintro e w1 ⟨rfl,hb⟩;have hb:=HB.out.trans (hb.mono HB.out.size);obtain⟨c1,c3,c4,c5,c6⟩:=HNC.out _ hb;have HB:=yH hb;clear hb)
              |(go_at_call 149;refine(HWD.out _ (HBW.out _ HB.out)).mono ?_;rintro e w1 ⟨rfl,hb⟩;have hb:=HB.out.trans (hb.mono HB.out.size);obtain⟨c1,c3,c4,c5,c6⟩:=HNC.out _ hb;have HB:=yH hb;clear hb)
              |(go_at_call 151;refine(HPT.out _ (HBW.out _ HB.out)).mono ?_;rintro e w1 ⟨rfl,hb⟩;have hb:=HB.out.trans (hb.mono HB.out.size);obtain⟨c1,c3,c4,c5,c6⟩:=HNC.out _ hb;have HB:=yH hb;clear hb)
              |(go_at_call 153;refine(HAS.out _ (HBW.out _ HB.out)).mono ?_;rintro e w1 ⟨rfl,hb⟩;have hb:=HB.out.trans (hb.mono HB.out.size);obtain⟨c1,c3,c4,c5,c6⟩:=HNC.out _ hb;have HB:=yH hb;clear hb)
              |(go_at_call 155;refine(HRD.out _ (HBW.out _ HB.out)).mono ?_;rintro e w1 ⟨rfl,hb⟩;have hb:=HB.out.trans (hb.mono HB.out.size);obtain⟨c1,c3,c4,c5,c6⟩:=HNC.out _ hb;have HB:=yH hb;clear hb))
            go_ret;exact⟨ret_bool HV.out,HBW.out _ HB.out⟩
end Go.Proofs.YtcpmjkefbjbhpaaGreatDoor
