/-
  Proved: a contract of a shape's fits. Conditions: none.
-/
import Derived.Test.YtcpmjkefbjbhpaaGreatDoorSw20
namespace Go.Proofs.YtcpmjkefbjbhpaaGreatDoor
open Go Go.RowKit GlyphMath LexMath TreeMath
set_option maxHeartbeats 4000000 in
set_option maxRecDepth 100000 in
theorem shape_any (s:Sh) (n:Nd) (kp wp pp ap rp:Option Addr) (kc wc pc ac rc:Nat) (w:World):
    Calls Tryz.prog 145 #[shapeV s,NV n kp wp pp ap rp kc wc pc ac rc] w fun e w'=>e= .returned (.bool (shapeT s n))∧Below w.heap.size w w':=by
  obtain⟨sop,k0,k1,w0,w1,sn,sp,sa,sr⟩:=s;have HR:=yH (show shapeT ⟨sop,k0,k1,w0,w1,sn,sp,sa,sr⟩ n=(hasT k0 k1 n.kids.length&&(hasT w0 w1 n.words.length&&((sn== !n.name.isEmpty)&&((n.pats.length==(if sp then n.kids.length else 0))&&((sa||n.assigns.isEmpty)&&(sr||n.redirs.isEmpty))))))from rfl);obtain⟨R,hR⟩:∃R,shapeT ⟨sop,k0,k1,w0,w1,sn,sp,sa,sr⟩ n=R:=⟨_,rfl⟩;rw[hR]at HR ⊢;have HB:=yH (fun o p=>below_two w o p);have ha:=empty_len n.assigns;have hr:=empty_len n.redirs;have hp:=nat_beq n.pats.length (if sp then n.kids.length else 0);obtain⟨o,ho⟩:∃o,T n.op=o:=⟨_,rfl⟩;obtain⟨x,hx⟩:∃o,T n.name=o:=⟨_,rfl⟩;obtain⟨z,hz⟩:∃o,T sop=o:=⟨_,rfl⟩;have hxe:x.toList.isEmpty=n.name.isEmpty:=(by rw[←hx,Lib.toList_data]);show Calls _ _ #[.agg #[.string (T sop),.int .i64 k0,.int .i64 k1,.int .i64 w0,.int .i64 w1,.bool sn,.bool sp,.bool sa,.bool sr],.agg #[.string (T n.op),.string (T n.name),.slice kp n.kids.length kc,.slice wp n.words.length wc,.slice pp n.pats.length pc,.slice ap n.assigns.length ac,.slice rp n.redirs.length rc]] _ _;rw[ho,hx,hz];clear ho hx hz hR
  generalize n.name.isEmpty=X at HR hxe
  generalize n.assigns.isEmpty=EA at HR ha
  generalize n.redirs.isEmpty=ER at HR hr
  generalize n.pats.length=PL at HR hp ⊢
  generalize n.words.length=WL at HR ⊢
  generalize n.assigns.length=AL at ha ⊢
  generalize n.redirs.length=RL at hr ⊢
  generalize n.kids.length=KL at HR hp ⊢
  obtain⟨A,hA⟩:∃A,hasT k0 k1 (KL:Int)=A:=⟨_,rfl⟩;obtain⟨B,hB⟩:∃A,hasT w0 w1 (WL:Int)=A:=⟨_,rfl⟩;obtain⟨P,hP⟩:∃A,(PL==(if sp then KL else 0))=A:=⟨_,rfl⟩;rw[hA]at HR;rw[hB]at HR;have HKA:=yH hA;have HWB:=yH hB;rw[hP]at HR hp;clear hA hB hP;obtain⟨CS,hCS⟩:∃CS:List Value,[.string z,.int .i64 k0,.int .i64 k1,.int .i64 w0,.int .i64 w1,.bool sn,.bool sp,.bool sa,.bool sr]=CS:=⟨_,rfl⟩;have HSC:=yH (SC.new w [.string z,.int .i64 k0,.int .i64 k1,.int .i64 w0,.int .i64 w1,.bool sn,.bool sp,.bool sa,.bool sr] [.string o,.string x,.slice kp KL kc,.slice wp WL wc,.slice pp PL pc,.slice ap AL ac,.slice rp RL rc] 188 41);clear hCS
  cases sp
  · have hp1:((PL:Int)==0)=P:=hp
    have hp2:(PL==0)=P:=(by rw[←hp1];exact(nat_beq PL 0).symm);clear hp
    cases A
    · go_enter Tryz.func145,Tryz.ntmps145
      go_wp2_with ((go_at_call 182;refine(has_any _ _ _ _).mono ?_;rintro e w1 ⟨rfl,hb⟩;first
          |(rw[HKA.out];have hsc:=SC.below HSC.out hb;have s3:=hsc.1 3 _ rfl;have s4:=hsc.1 4 _ rfl;have s5:=hsc.1 5 _ rfl;have s6:=hsc.1 6 _ rfl;have s7:=hsc.1 7 _ rfl;have s8:=hsc.1 8 _ rfl;have n1:=hsc.2 1 _ rfl;have n3:=hsc.2 3 _ rfl;have n4:=hsc.2 4 _ rfl;have n5:=hsc.2 5 _ rfl;have n6:=hsc.2 6 _ rfl;have HS1:=yH hsc;have HB1:=yH ((HB.out _ _).trans (hb.mono (HB.out _ _).size));clear hb hsc)
          |(rw[HWB.out];have hsc:=SC.below HS1.out hb;have s5:=hsc.1 5 _ rfl;have s6:=hsc.1 6 _ rfl;have s7:=hsc.1 7 _ rfl;have s8:=hsc.1 8 _ rfl;have n1:=hsc.2 1 _ rfl;have n3:=hsc.2 3 _ rfl;have n4:=hsc.2 4 _ rfl;have n5:=hsc.2 5 _ rfl;have n6:=hsc.2 6 _ rfl;have HB2:=yH (HB1.out.trans (hb.mono HB1.out.size));clear hb hsc)))
      go_ret
      first|exact⟨ret_bool HR.out.symm,HB2.out⟩|exact⟨ret_bool HR.out.symm,HB1.out⟩
    · cases B
      · go_enter Tryz.func145,Tryz.ntmps145
        go_wp2_with ((go_at_call 182;refine(has_any _ _ _ _).mono ?_;rintro e w1 ⟨rfl,hb⟩;first
            |(rw[HKA.out];have hsc:=SC.below HSC.out hb;have s3:=hsc.1 3 _ rfl;have s4:=hsc.1 4 _ rfl;have s5:=hsc.1 5 _ rfl;have s6:=hsc.1 6 _ rfl;have s7:=hsc.1 7 _ rfl;have s8:=hsc.1 8 _ rfl;have n1:=hsc.2 1 _ rfl;have n3:=hsc.2 3 _ rfl;have n4:=hsc.2 4 _ rfl;have n5:=hsc.2 5 _ rfl;have n6:=hsc.2 6 _ rfl;have HS1:=yH hsc;have HB1:=yH ((HB.out _ _).trans (hb.mono (HB.out _ _).size));clear hb hsc)
            |(rw[HWB.out];have hsc:=SC.below HS1.out hb;have s5:=hsc.1 5 _ rfl;have s6:=hsc.1 6 _ rfl;have s7:=hsc.1 7 _ rfl;have s8:=hsc.1 8 _ rfl;have n1:=hsc.2 1 _ rfl;have n3:=hsc.2 3 _ rfl;have n4:=hsc.2 4 _ rfl;have n5:=hsc.2 5 _ rfl;have n6:=hsc.2 6 _ rfl;have HB2:=yH (HB1.out.trans (hb.mono HB1.out.size));clear hb hsc)))
        go_ret
        first|exact⟨ret_bool HR.out.symm,HB2.out⟩|exact⟨ret_bool HR.out.symm,HB1.out⟩
      · cases sn
        · cases X
          · go_enter Tryz.func145,Tryz.ntmps145
            go_wp2_with ((go_at_call 182;refine(has_any _ _ _ _).mono ?_;rintro e w1 ⟨rfl,hb⟩;first
                |(rw[HKA.out];have hsc:=SC.below HSC.out hb;have s3:=hsc.1 3 _ rfl;have s4:=hsc.1 4 _ rfl;have s5:=hsc.1 5 _ rfl;have s6:=hsc.1 6 _ rfl;have s7:=hsc.1 7 _ rfl;have s8:=hsc.1 8 _ rfl;have n1:=hsc.2 1 _ rfl;have n3:=hsc.2 3 _ rfl;have n4:=hsc.2 4 _ rfl;have n5:=hsc.2 5 _ rfl;have n6:=hsc.2 6 _ rfl;have HS1:=yH hsc;have HB1:=yH ((HB.out _ _).trans (hb.mono (HB.out _ _).size));clear hb hsc)
                |(rw[HWB.out];have hsc:=SC.below HS1.out hb;have s5:=hsc.1 5 _ rfl;have s6:=hsc.1 6 _ rfl;have s7:=hsc.1 7 _ rfl;have s8:=hsc.1 8 _ rfl;have n1:=hsc.2 1 _ rfl;have n3:=hsc.2 3 _ rfl;have n4:=hsc.2 4 _ rfl;have n5:=hsc.2 5 _ rfl;have n6:=hsc.2 6 _ rfl;have HB2:=yH (HB1.out.trans (hb.mono HB1.out.size));clear hb hsc)))
            go_ret
            first|exact⟨ret_bool HR.out.symm,HB2.out⟩|exact⟨ret_bool HR.out.symm,HB1.out⟩
          · cases P
            · go_enter Tryz.func145,Tryz.ntmps145
              go_wp2_with ((go_at_call 182;refine(has_any _ _ _ _).mono ?_;rintro e w1 ⟨rfl,hb⟩;first
                  |(rw[HKA.out];have hsc:=SC.below HSC.out hb;have s3:=hsc.1 3 _ rfl;have s4:=hsc.1 4 _ rfl;have s5:=hsc.1 5 _ rfl;have s6:=hsc.1 6 _ rfl;have s7:=hsc.1 7 _ rfl;have s8:=hsc.1 8 _ rfl;have n1:=hsc.2 1 _ rfl;have n3:=hsc.2 3 _ rfl;have n4:=hsc.2 4 _ rfl;have n5:=hsc.2 5 _ rfl;have n6:=hsc.2 6 _ rfl;have HS1:=yH hsc;have HB1:=yH ((HB.out _ _).trans (hb.mono (HB.out _ _).size));clear hb hsc)
                  |(rw[HWB.out];have hsc:=SC.below HS1.out hb;have s5:=hsc.1 5 _ rfl;have s6:=hsc.1 6 _ rfl;have s7:=hsc.1 7 _ rfl;have s8:=hsc.1 8 _ rfl;have n1:=hsc.2 1 _ rfl;have n3:=hsc.2 3 _ rfl;have n4:=hsc.2 4 _ rfl;have n5:=hsc.2 5 _ rfl;have n6:=hsc.2 6 _ rfl;have HB2:=yH (HB1.out.trans (hb.mono HB1.out.size));clear hb hsc)))
              go_ret
              first|exact⟨ret_bool HR.out.symm,HB2.out⟩|exact⟨ret_bool HR.out.symm,HB1.out⟩
            · cases sa
              · cases EA
                · go_enter Tryz.func145,Tryz.ntmps145
                  go_wp2_with ((go_at_call 182;refine(has_any _ _ _ _).mono ?_;rintro e w1 ⟨rfl,hb⟩;first
                      |(rw[HKA.out];have hsc:=SC.below HSC.out hb;have s3:=hsc.1 3 _ rfl;have s4:=hsc.1 4 _ rfl;have s5:=hsc.1 5 _ rfl;have s6:=hsc.1 6 _ rfl;have s7:=hsc.1 7 _ rfl;have s8:=hsc.1 8 _ rfl;have n1:=hsc.2 1 _ rfl;have n3:=hsc.2 3 _ rfl;have n4:=hsc.2 4 _ rfl;have n5:=hsc.2 5 _ rfl;have n6:=hsc.2 6 _ rfl;have HS1:=yH hsc;have HB1:=yH ((HB.out _ _).trans (hb.mono (HB.out _ _).size));clear hb hsc)
                      |(rw[HWB.out];have hsc:=SC.below HS1.out hb;have s5:=hsc.1 5 _ rfl;have s6:=hsc.1 6 _ rfl;have s7:=hsc.1 7 _ rfl;have s8:=hsc.1 8 _ rfl;have n1:=hsc.2 1 _ rfl;have n3:=hsc.2 3 _ rfl;have n4:=hsc.2 4 _ rfl;have n5:=hsc.2 5 _ rfl;have n6:=hsc.2 6 _ rfl;have HB2:=yH (HB1.out.trans (hb.mono HB1.out.size));clear hb hsc)))
                  go_ret
                  first|exact⟨ret_bool HR.out.symm,HB2.out⟩|exact⟨ret_bool HR.out.symm,HB1.out⟩
                · cases sr
                  · cases ER
                    · go_enter Tryz.func145,Tryz.ntmps145
                      go_wp2_with ((go_at_call 182;refine(has_any _ _ _ _).mono ?_;rintro e w1 ⟨rfl,hb⟩;first
                          |(rw[HKA.out];have hsc:=SC.below HSC.out hb;have s3:=hsc.1 3 _ rfl;have s4:=hsc.1 4 _ rfl;have s5:=hsc.1 5 _ rfl;have s6:=hsc.1 6 _ rfl;have s7:=hsc.1 7 _ rfl;have s8:=hsc.1 8 _ rfl;have n1:=hsc.2 1 _ rfl;have n3:=hsc.2 3 _ rfl;have n4:=hsc.2 4 _ rfl;have n5:=hsc.2 5 _ rfl;have n6:=hsc.2 6 _ rfl;have HS1:=yH hsc;have HB1:=yH ((HB.out _ _).trans (hb.mono (HB.out _ _).size));clear hb hsc)
                          |(rw[HWB.out];have hsc:=SC.below HS1.out hb;have s5:=hsc.1 5 _ rfl;have s6:=hsc.1 6 _ rfl;have s7:=hsc.1 7 _ rfl;have s8:=hsc.1 8 _ rfl;have n1:=hsc.2 1 _ rfl;have n3:=hsc.2 3 _ rfl;have n4:=hsc.2 4 _ rfl;have n5:=hsc.2 5 _ rfl;have n6:=hsc.2 6 _ rfl;have HB2:=yH (HB1.out.trans (hb.mono HB1.out.size));clear hb hsc)))
                      go_ret
                      first|exact⟨ret_bool HR.out.symm,HB2.out⟩|exact⟨ret_bool HR.out.symm,HB1.out⟩
                    · go_enter Tryz.func145,Tryz.ntmps145
                      go_wp2_with ((go_at_call 182;refine(has_any _ _ _ _).mono ?_;rintro e w1 ⟨rfl,hb⟩;first
                          |(rw[HKA.out];have hsc:=SC.below HSC.out hb;have s3:=hsc.1 3 _ rfl;have s4:=hsc.1 4 _ rfl;have s5:=hsc.1 5 _ rfl;have s6:=hsc.1 6 _ rfl;have s7:=hsc.1 7 _ rfl;have s8:=hsc.1 8 _ rfl;have n1:=hsc.2 1 _ rfl;have n3:=hsc.2 3 _ rfl;have n4:=hsc.2 4 _ rfl;have n5:=hsc.2 5 _ rfl;have n6:=hsc.2 6 _ rfl;have HS1:=yH hsc;have HB1:=yH ((HB.out _ _).trans (hb.mono (HB.out _ _).size));clear hb hsc)
                          |(rw[HWB.out];have hsc:=SC.below HS1.out hb;have s5:=hsc.1 5 _ rfl;have s6:=hsc.1 6 _ rfl;have s7:=hsc.1 7 _ rfl;have s8:=hsc.1 8 _ rfl;have n1:=hsc.2 1 _ rfl;have n3:=hsc.2 3 _ rfl;have n4:=hsc.2 4 _ rfl;have n5:=hsc.2 5 _ rfl;have n6:=hsc.2 6 _ rfl;have HB2:=yH (HB1.out.trans (hb.mono HB1.out.size));clear hb hsc)))
                      go_ret
                      first|exact⟨ret_bool HR.out.symm,HB2.out⟩|exact⟨ret_bool HR.out.symm,HB1.out⟩
                  · go_enter Tryz.func145,Tryz.ntmps145
                    go_wp2_with ((go_at_call 182;refine(has_any _ _ _ _).mono ?_;rintro e w1 ⟨rfl,hb⟩;first
                        |(rw[HKA.out];have hsc:=SC.below HSC.out hb;have s3:=hsc.1 3 _ rfl;have s4:=hsc.1 4 _ rfl;have s5:=hsc.1 5 _ rfl;have s6:=hsc.1 6 _ rfl;have s7:=hsc.1 7 _ rfl;have s8:=hsc.1 8 _ rfl;have n1:=hsc.2 1 _ rfl;have n3:=hsc.2 3 _ rfl;have n4:=hsc.2 4 _ rfl;have n5:=hsc.2 5 _ rfl;have n6:=hsc.2 6 _ rfl;have HS1:=yH hsc;have HB1:=yH ((HB.out _ _).trans (hb.mono (HB.out _ _).size));clear hb hsc)
                        |(rw[HWB.out];have hsc:=SC.below HS1.out hb;have s5:=hsc.1 5 _ rfl;have s6:=hsc.1 6 _ rfl;have s7:=hsc.1 7 _ rfl;have s8:=hsc.1 8 _ rfl;have n1:=hsc.2 1 _ rfl;have n3:=hsc.2 3 _ rfl;have n4:=hsc.2 4 _ rfl;have n5:=hsc.2 5 _ rfl;have n6:=hsc.2 6 _ rfl;have HB2:=yH (HB1.out.trans (hb.mono HB1.out.size));clear hb hsc)))
                    go_ret
                    first|exact⟨ret_bool HR.out.symm,HB2.out⟩|exact⟨ret_bool HR.out.symm,HB1.out⟩
              · cases sr
                · cases ER
                  · go_enter Tryz.func145,Tryz.ntmps145
                    go_wp2_with ((go_at_call 182;refine(has_any _ _ _ _).mono ?_;rintro e w1 ⟨rfl,hb⟩;first
                        |(rw[HKA.out];have hsc:=SC.below HSC.out hb;have s3:=hsc.1 3 _ rfl;have s4:=hsc.1 4 _ rfl;have s5:=hsc.1 5 _ rfl;have s6:=hsc.1 6 _ rfl;have s7:=hsc.1 7 _ rfl;have s8:=hsc.1 8 _ rfl;have n1:=hsc.2 1 _ rfl;have n3:=hsc.2 3 _ rfl;have n4:=hsc.2 4 _ rfl;have n5:=hsc.2 5 _ rfl;have n6:=hsc.2 6 _ rfl;have HS1:=yH hsc;have HB1:=yH ((HB.out _ _).trans (hb.mono (HB.out _ _).size));clear hb hsc)
                        |(rw[HWB.out];have hsc:=SC.below HS1.out hb;have s5:=hsc.1 5 _ rfl;have s6:=hsc.1 6 _ rfl;have s7:=hsc.1 7 _ rfl;have s8:=hsc.1 8 _ rfl;have n1:=hsc.2 1 _ rfl;have n3:=hsc.2 3 _ rfl;have n4:=hsc.2 4 _ rfl;have n5:=hsc.2 5 _ rfl;have n6:=hsc.2 6 _ rfl;have HB2:=yH (HB1.out.trans (hb.mono HB1.out.size));clear hb hsc)))
                    go_ret
                    first|exact⟨ret_bool HR.out.symm,HB2.out⟩|exact⟨ret_bool HR.out.symm,HB1.out⟩
                  · go_enter Tryz.func145,Tryz.ntmps145
                    go_wp2_with ((go_at_call 182;refine(has_any _ _ _ _).mono ?_;rintro e w1 ⟨rfl,hb⟩;first
                        |(rw[HKA.out];have hsc:=SC.below HSC.out hb;have s3:=hsc.1 3 _ rfl;have s4:=hsc.1 4 _ rfl;have s5:=hsc.1 5 _ rfl;have s6:=hsc.1 6 _ rfl;have s7:=hsc.1 7 _ rfl;have s8:=hsc.1 8 _ rfl;have n1:=hsc.2 1 _ rfl;have n3:=hsc.2 3 _ rfl;have n4:=hsc.2 4 _ rfl;have n5:=hsc.2 5 _ rfl;have n6:=hsc.2 6 _ rfl;have HS1:=yH hsc;have HB1:=yH ((HB.out _ _).trans (hb.mono (HB.out _ _).size));clear hb hsc)
                        |(rw[HWB.out];have hsc:=SC.below HS1.out hb;have s5:=hsc.1 5 _ rfl;have s6:=hsc.1 6 _ rfl;have s7:=hsc.1 7 _ rfl;have s8:=hsc.1 8 _ rfl;have n1:=hsc.2 1 _ rfl;have n3:=hsc.2 3 _ rfl;have n4:=hsc.2 4 _ rfl;have n5:=hsc.2 5 _ rfl;have n6:=hsc.2 6 _ rfl;have HB2:=yH (HB1.out.trans (hb.mono HB1.out.size));clear hb hsc)))
                    go_ret
                    first|exact⟨ret_bool HR.out.symm,HB2.out⟩|exact⟨ret_bool HR.out.symm,HB1.out⟩
                · go_enter Tryz.func145,Tryz.ntmps145
                  go_wp2_with ((go_at_call 182;refine(has_any _ _ _ _).mono ?_;rintro e w1 ⟨rfl,hb⟩;first
                      |(rw[HKA.out];have hsc:=SC.below HSC.out hb;have s3:=hsc.1 3 _ rfl;have s4:=hsc.1 4 _ rfl;have s5:=hsc.1 5 _ rfl;have s6:=hsc.1 6 _ rfl;have s7:=hsc.1 7 _ rfl;have s8:=hsc.1 8 _ rfl;have n1:=hsc.2 1 _ rfl;have n3:=hsc.2 3 _ rfl;have n4:=hsc.2 4 _ rfl;have n5:=hsc.2 5 _ rfl;have n6:=hsc.2 6 _ rfl;have HS1:=yH hsc;have HB1:=yH ((HB.out _ _).trans (hb.mono (HB.out _ _).size));clear hb hsc)
                      |(rw[HWB.out];have hsc:=SC.below HS1.out hb;have s5:=hsc.1 5 _ rfl;have s6:=hsc.1 6 _ rfl;have s7:=hsc.1 7 _ rfl;have s8:=hsc.1 8 _ rfl;have n1:=hsc.2 1 _ rfl;have n3:=hsc.2 3 _ rfl;have n4:=hsc.2 4 _ rfl;have n5:=hsc.2 5 _ rfl;have n6:=hsc.2 6 _ rfl;have HB2:=yH (HB1.out.trans (hb.mono HB1.out.size));clear hb hsc)))
                  go_ret
                  first|exact⟨ret_bool HR.out.symm,HB2.out⟩|exact⟨ret_bool HR.out.symm,HB1.out⟩
        · cases X
          · cases P
            · go_enter Tryz.func145,Tryz.ntmps145
              go_wp2_with ((go_at_call 182;refine(has_any _ _ _ _).mono ?_;rintro e w1 ⟨rfl,hb⟩;first
                  |(rw[HKA.out];have hsc:=SC.below HSC.out hb;have s3:=hsc.1 3 _ rfl;have s4:=hsc.1 4 _ rfl;have s5:=hsc.1 5 _ rfl;have s6:=hsc.1 6 _ rfl;have s7:=hsc.1 7 _ rfl;have s8:=hsc.1 8 _ rfl;have n1:=hsc.2 1 _ rfl;have n3:=hsc.2 3 _ rfl;have n4:=hsc.2 4 _ rfl;have n5:=hsc.2 5 _ rfl;have n6:=hsc.2 6 _ rfl;have HS1:=yH hsc;have HB1:=yH ((HB.out _ _).trans (hb.mono (HB.out _ _).size));clear hb hsc)
                  |(rw[HWB.out];have hsc:=SC.below HS1.out hb;have s5:=hsc.1 5 _ rfl;have s6:=hsc.1 6 _ rfl;have s7:=hsc.1 7 _ rfl;have s8:=hsc.1 8 _ rfl;have n1:=hsc.2 1 _ rfl;have n3:=hsc.2 3 _ rfl;have n4:=hsc.2 4 _ rfl;have n5:=hsc.2 5 _ rfl;have n6:=hsc.2 6 _ rfl;have HB2:=yH (HB1.out.trans (hb.mono HB1.out.size));clear hb hsc)))
              go_ret
              first|exact⟨ret_bool HR.out.symm,HB2.out⟩|exact⟨ret_bool HR.out.symm,HB1.out⟩
            · cases sa
              · cases EA
                · go_enter Tryz.func145,Tryz.ntmps145
                  go_wp2_with ((go_at_call 182;refine(has_any _ _ _ _).mono ?_;rintro e w1 ⟨rfl,hb⟩;first
                      |(rw[HKA.out];have hsc:=SC.below HSC.out hb;have s3:=hsc.1 3 _ rfl;have s4:=hsc.1 4 _ rfl;have s5:=hsc.1 5 _ rfl;have s6:=hsc.1 6 _ rfl;have s7:=hsc.1 7 _ rfl;have s8:=hsc.1 8 _ rfl;have n1:=hsc.2 1 _ rfl;have n3:=hsc.2 3 _ rfl;have n4:=hsc.2 4 _ rfl;have n5:=hsc.2 5 _ rfl;have n6:=hsc.2 6 _ rfl;have HS1:=yH hsc;have HB1:=yH ((HB.out _ _).trans (hb.mono (HB.out _ _).size));clear hb hsc)
                      |(rw[HWB.out];have hsc:=SC.below HS1.out hb;have s5:=hsc.1 5 _ rfl;have s6:=hsc.1 6 _ rfl;have s7:=hsc.1 7 _ rfl;have s8:=hsc.1 8 _ rfl;have n1:=hsc.2 1 _ rfl;have n3:=hsc.2 3 _ rfl;have n4:=hsc.2 4 _ rfl;have n5:=hsc.2 5 _ rfl;have n6:=hsc.2 6 _ rfl;have HB2:=yH (HB1.out.trans (hb.mono HB1.out.size));clear hb hsc)))
                  go_ret
                  first|exact⟨ret_bool HR.out.symm,HB2.out⟩|exact⟨ret_bool HR.out.symm,HB1.out⟩
                · cases sr
                  · cases ER
                    · go_enter Tryz.func145,Tryz.ntmps145
                      go_wp2_with ((go_at_call 182;refine(has_any _ _ _ _).mono ?_;rintro e w1 ⟨rfl,hb⟩;first
                          |(rw[HKA.out];have hsc:=SC.below HSC.out hb;have s3:=hsc.1 3 _ rfl;have s4:=hsc.1 4 _ rfl;have s5:=hsc.1 5 _ rfl;have s6:=hsc.1 6 _ rfl;have s7:=hsc.1 7 _ rfl;have s8:=hsc.1 8 _ rfl;have n1:=hsc.2 1 _ rfl;have n3:=hsc.2 3 _ rfl;have n4:=hsc.2 4 _ rfl;have n5:=hsc.2 5 _ rfl;have n6:=hsc.2 6 _ rfl;have HS1:=yH hsc;have HB1:=yH ((HB.out _ _).trans (hb.mono (HB.out _ _).size));clear hb hsc)
                          |(rw[HWB.out];have hsc:=SC.below HS1.out hb;have s5:=hsc.1 5 _ rfl;have s6:=hsc.1 6 _ rfl;have s7:=hsc.1 7 _ rfl;have s8:=hsc.1 8 _ rfl;have n1:=hsc.2 1 _ rfl;have n3:=hsc.2 3 _ rfl;have n4:=hsc.2 4 _ rfl;have n5:=hsc.2 5 _ rfl;have n6:=hsc.2 6 _ rfl;have HB2:=yH (HB1.out.trans (hb.mono HB1.out.size));clear hb hsc)))
                      go_ret
                      first|exact⟨ret_bool HR.out.symm,HB2.out⟩|exact⟨ret_bool HR.out.symm,HB1.out⟩
                    · go_enter Tryz.func145,Tryz.ntmps145
                      go_wp2_with ((go_at_call 182;refine(has_any _ _ _ _).mono ?_;rintro e w1 ⟨rfl,hb⟩;first
                          |(rw[HKA.out];have hsc:=SC.below HSC.out hb;have s3:=hsc.1 3 _ rfl;have s4:=hsc.1 4 _ rfl;have s5:=hsc.1 5 _ rfl;have s6:=hsc.1 6 _ rfl;have s7:=hsc.1 7 _ rfl;have s8:=hsc.1 8 _ rfl;have n1:=hsc.2 1 _ rfl;have n3:=hsc.2 3 _ rfl;have n4:=hsc.2 4 _ rfl;have n5:=hsc.2 5 _ rfl;have n6:=hsc.2 6 _ rfl;have HS1:=yH hsc;have HB1:=yH ((HB.out _ _).trans (hb.mono (HB.out _ _).size));clear hb hsc)
                          |(rw[HWB.out];have hsc:=SC.below HS1.out hb;have s5:=hsc.1 5 _ rfl;have s6:=hsc.1 6 _ rfl;have s7:=hsc.1 7 _ rfl;have s8:=hsc.1 8 _ rfl;have n1:=hsc.2 1 _ rfl;have n3:=hsc.2 3 _ rfl;have n4:=hsc.2 4 _ rfl;have n5:=hsc.2 5 _ rfl;have n6:=hsc.2 6 _ rfl;have HB2:=yH (HB1.out.trans (hb.mono HB1.out.size));clear hb hsc)))
                      go_ret
                      first|exact⟨ret_bool HR.out.symm,HB2.out⟩|exact⟨ret_bool HR.out.symm,HB1.out⟩
                  · go_enter Tryz.func145,Tryz.ntmps145
                    go_wp2_with ((go_at_call 182;refine(has_any _ _ _ _).mono ?_;rintro e w1 ⟨rfl,hb⟩;first
                        |(rw[HKA.out];have hsc:=SC.below HSC.out hb;have s3:=hsc.1 3 _ rfl;have s4:=hsc.1 4 _ rfl;have s5:=hsc.1 5 _ rfl;have s6:=hsc.1 6 _ rfl;have s7:=hsc.1 7 _ rfl;have s8:=hsc.1 8 _ rfl;have n1:=hsc.2 1 _ rfl;have n3:=hsc.2 3 _ rfl;have n4:=hsc.2 4 _ rfl;have n5:=hsc.2 5 _ rfl;have n6:=hsc.2 6 _ rfl;have HS1:=yH hsc;have HB1:=yH ((HB.out _ _).trans (hb.mono (HB.out _ _).size));clear hb hsc)
                        |(rw[HWB.out];have hsc:=SC.below HS1.out hb;have s5:=hsc.1 5 _ rfl;have s6:=hsc.1 6 _ rfl;have s7:=hsc.1 7 _ rfl;have s8:=hsc.1 8 _ rfl;have n1:=hsc.2 1 _ rfl;have n3:=hsc.2 3 _ rfl;have n4:=hsc.2 4 _ rfl;have n5:=hsc.2 5 _ rfl;have n6:=hsc.2 6 _ rfl;have HB2:=yH (HB1.out.trans (hb.mono HB1.out.size));clear hb hsc)))
                    go_ret
                    first|exact⟨ret_bool HR.out.symm,HB2.out⟩|exact⟨ret_bool HR.out.symm,HB1.out⟩
              · cases sr
                · cases ER
                  · go_enter Tryz.func145,Tryz.ntmps145
                    go_wp2_with ((go_at_call 182;refine(has_any _ _ _ _).mono ?_;rintro e w1 ⟨rfl,hb⟩;first
                        |(rw[HKA.out];have hsc:=SC.below HSC.out hb;have s3:=hsc.1 3 _ rfl;have s4:=hsc.1 4 _ rfl;have s5:=hsc.1 5 _ rfl;have s6:=hsc.1 6 _ rfl;have s7:=hsc.1 7 _ rfl;have s8:=hsc.1 8 _ rfl;have n1:=hsc.2 1 _ rfl;have n3:=hsc.2 3 _ rfl;have n4:=hsc.2 4 _ rfl;have n5:=hsc.2 5 _ rfl;have n6:=hsc.2 6 _ rfl;have HS1:=yH hsc;have HB1:=yH ((HB.out _ _).trans (hb.mono (HB.out _ _).size));clear hb hsc)
                        |(rw[HWB.out];have hsc:=SC.below HS1.out hb;have s5:=hsc.1 5 _ rfl;have s6:=hsc.1 6 _ rfl;have s7:=hsc.1 7 _ rfl;have s8:=hsc.1 8 _ rfl;have n1:=hsc.2 1 _ rfl;have n3:=hsc.2 3 _ rfl;have n4:=hsc.2 4 _ rfl;have n5:=hsc.2 5 _ rfl;have n6:=hsc.2 6 _ rfl;have HB2:=yH (HB1.out.trans (hb.mono HB1.out.size));clear hb hsc)))
                    go_ret
                    first|exact⟨ret_bool HR.out.symm,HB2.out⟩|exact⟨ret_bool HR.out.symm,HB1.out⟩
                  · go_enter Tryz.func145,Tryz.ntmps145
                    go_wp2_with ((go_at_call 182;refine(has_any _ _ _ _).mono ?_;rintro e w1 ⟨rfl,hb⟩;first
                        |(rw[HKA.out];have hsc:=SC.below HSC.out hb;have s3:=hsc.1 3 _ rfl;have s4:=hsc.1 4 _ rfl;have s5:=hsc.1 5 _ rfl;have s6:=hsc.1 6 _ rfl;have s7:=hsc.1 7 _ rfl;have s8:=hsc.1 8 _ rfl;have n1:=hsc.2 1 _ rfl;have n3:=hsc.2 3 _ rfl;have n4:=hsc.2 4 _ rfl;have n5:=hsc.2 5 _ rfl;have n6:=hsc.2 6 _ rfl;have HS1:=yH hsc;have HB1:=yH ((HB.out _ _).trans (hb.mono (HB.out _ _).size));clear hb hsc)
                        |(rw[HWB.out];have hsc:=SC.below HS1.out hb;have s5:=hsc.1 5 _ rfl;have s6:=hsc.1 6 _ rfl;have s7:=hsc.1 7 _ rfl;have s8:=hsc.1 8 _ rfl;have n1:=hsc.2 1 _ rfl;have n3:=hsc.2 3 _ rfl;have n4:=hsc.2 4 _ rfl;have n5:=hsc.2 5 _ rfl;have n6:=hsc.2 6 _ rfl;have HB2:=yH (HB1.out.trans (hb.mono HB1.out.size));clear hb hsc)))
                    go_ret
                    first|exact⟨ret_bool HR.out.symm,HB2.out⟩|exact⟨ret_bool HR.out.symm,HB1.out⟩
                · go_enter Tryz.func145,Tryz.ntmps145
                  go_wp2_with ((go_at_call 182;refine(has_any _ _ _ _).mono ?_;rintro e w1 ⟨rfl,hb⟩;first
                      |(rw[HKA.out];have hsc:=SC.below HSC.out hb;have s3:=hsc.1 3 _ rfl;have s4:=hsc.1 4 _ rfl;have s5:=hsc.1 5 _ rfl;have s6:=hsc.1 6 _ rfl;have s7:=hsc.1 7 _ rfl;have s8:=hsc.1 8 _ rfl;have n1:=hsc.2 1 _ rfl;have n3:=hsc.2 3 _ rfl;have n4:=hsc.2 4 _ rfl;have n5:=hsc.2 5 _ rfl;have n6:=hsc.2 6 _ rfl;have HS1:=yH hsc;have HB1:=yH ((HB.out _ _).trans (hb.mono (HB.out _ _).size));clear hb hsc)
                      |(rw[HWB.out];have hsc:=SC.below HS1.out hb;have s5:=hsc.1 5 _ rfl;have s6:=hsc.1 6 _ rfl;have s7:=hsc.1 7 _ rfl;have s8:=hsc.1 8 _ rfl;have n1:=hsc.2 1 _ rfl;have n3:=hsc.2 3 _ rfl;have n4:=hsc.2 4 _ rfl;have n5:=hsc.2 5 _ rfl;have n6:=hsc.2 6 _ rfl;have HB2:=yH (HB1.out.trans (hb.mono HB1.out.size));clear hb hsc)))
                  go_ret
                  first|exact⟨ret_bool HR.out.symm,HB2.out⟩|exact⟨ret_bool HR.out.symm,HB1.out⟩
          · go_enter Tryz.func145,Tryz.ntmps145
            go_wp2_with ((go_at_call 182;refine(has_any _ _ _ _).mono ?_;rintro e w1 ⟨rfl,hb⟩;first
                |(rw[HKA.out];have hsc:=SC.below HSC.out hb;have s3:=hsc.1 3 _ rfl;have s4:=hsc.1 4 _ rfl;have s5:=hsc.1 5 _ rfl;have s6:=hsc.1 6 _ rfl;have s7:=hsc.1 7 _ rfl;have s8:=hsc.1 8 _ rfl;have n1:=hsc.2 1 _ rfl;have n3:=hsc.2 3 _ rfl;have n4:=hsc.2 4 _ rfl;have n5:=hsc.2 5 _ rfl;have n6:=hsc.2 6 _ rfl;have HS1:=yH hsc;have HB1:=yH ((HB.out _ _).trans (hb.mono (HB.out _ _).size));clear hb hsc)
                |(rw[HWB.out];have hsc:=SC.below HS1.out hb;have s5:=hsc.1 5 _ rfl;have s6:=hsc.1 6 _ rfl;have s7:=hsc.1 7 _ rfl;have s8:=hsc.1 8 _ rfl;have n1:=hsc.2 1 _ rfl;have n3:=hsc.2 3 _ rfl;have n4:=hsc.2 4 _ rfl;have n5:=hsc.2 5 _ rfl;have n6:=hsc.2 6 _ rfl;have HB2:=yH (HB1.out.trans (hb.mono HB1.out.size));clear hb hsc)))
            go_ret
            first|exact⟨ret_bool HR.out.symm,HB2.out⟩|exact⟨ret_bool HR.out.symm,HB1.out⟩
  · have hp1:((PL:Int)==(KL:Int))=P:=hp
    have hp2:(PL==KL)=P:=(by rw[←hp1];exact(nat_beq PL KL).symm);clear hp
    cases A
    · go_enter Tryz.func145,Tryz.ntmps145
      go_wp2_with ((go_at_call 182;refine(has_any _ _ _ _).mono ?_;rintro e w1 ⟨rfl,hb⟩;first
          |(rw[HKA.out];have hsc:=SC.below HSC.out hb;have s3:=hsc.1 3 _ rfl;have s4:=hsc.1 4 _ rfl;have s5:=hsc.1 5 _ rfl;have s6:=hsc.1 6 _ rfl;have s7:=hsc.1 7 _ rfl;have s8:=hsc.1 8 _ rfl;have n1:=hsc.2 1 _ rfl;have n3:=hsc.2 3 _ rfl;have n4:=hsc.2 4 _ rfl;have n5:=hsc.2 5 _ rfl;have n6:=hsc.2 6 _ rfl;have HS1:=yH hsc;have HB1:=yH ((HB.out _ _).trans (hb.mono (HB.out _ _).size));clear hb hsc)
          |(rw[HWB.out];have hsc:=SC.below HS1.out hb;have s5:=hsc.1 5 _ rfl;have s6:=hsc.1 6 _ rfl;have s7:=hsc.1 7 _ rfl;have s8:=hsc.1 8 _ rfl;have n1:=hsc.2 1 _ rfl;have n3:=hsc.2 3 _ rfl;have n4:=hsc.2 4 _ rfl;have n5:=hsc.2 5 _ rfl;have n6:=hsc.2 6 _ rfl;have HB2:=yH (HB1.out.trans (hb.mono HB1.out.size));clear hb hsc)))
      go_ret
      first|exact⟨ret_bool HR.out.symm,HB2.out⟩|exact⟨ret_bool HR.out.symm,HB1.out⟩
    · cases B
      · go_enter Tryz.func145,Tryz.ntmps145
        go_wp2_with ((go_at_call 182;refine(has_any _ _ _ _).mono ?_;rintro e w1 ⟨rfl,hb⟩;first
            |(rw[HKA.out];have hsc:=SC.below HSC.out hb;have s3:=hsc.1 3 _ rfl;have s4:=hsc.1 4 _ rfl;have s5:=hsc.1 5 _ rfl;have s6:=hsc.1 6 _ rfl;have s7:=hsc.1 7 _ rfl;have s8:=hsc.1 8 _ rfl;have n1:=hsc.2 1 _ rfl;have n3:=hsc.2 3 _ rfl;have n4:=hsc.2 4 _ rfl;have n5:=hsc.2 5 _ rfl;have n6:=hsc.2 6 _ rfl;have HS1:=yH hsc;have HB1:=yH ((HB.out _ _).trans (hb.mono (HB.out _ _).size));clear hb hsc)
            |(rw[HWB.out];have hsc:=SC.below HS1.out hb;have s5:=hsc.1 5 _ rfl;have s6:=hsc.1 6 _ rfl;have s7:=hsc.1 7 _ rfl;have s8:=hsc.1 8 _ rfl;have n1:=hsc.2 1 _ rfl;have n3:=hsc.2 3 _ rfl;have n4:=hsc.2 4 _ rfl;have n5:=hsc.2 5 _ rfl;have n6:=hsc.2 6 _ rfl;have HB2:=yH (HB1.out.trans (hb.mono HB1.out.size));clear hb hsc)))
        go_ret
        first|exact⟨ret_bool HR.out.symm,HB2.out⟩|exact⟨ret_bool HR.out.symm,HB1.out⟩
      · cases sn
        · cases X
          · go_enter Tryz.func145,Tryz.ntmps145
            go_wp2_with ((go_at_call 182;refine(has_any _ _ _ _).mono ?_;rintro e w1 ⟨rfl,hb⟩;first
                |(rw[HKA.out];have hsc:=SC.below HSC.out hb;have s3:=hsc.1 3 _ rfl;have s4:=hsc.1 4 _ rfl;have s5:=hsc.1 5 _ rfl;have s6:=hsc.1 6 _ rfl;have s7:=hsc.1 7 _ rfl;have s8:=hsc.1 8 _ rfl;have n1:=hsc.2 1 _ rfl;have n3:=hsc.2 3 _ rfl;have n4:=hsc.2 4 _ rfl;have n5:=hsc.2 5 _ rfl;have n6:=hsc.2 6 _ rfl;have HS1:=yH hsc;have HB1:=yH ((HB.out _ _).trans (hb.mono (HB.out _ _).size));clear hb hsc)
                |(rw[HWB.out];have hsc:=SC.below HS1.out hb;have s5:=hsc.1 5 _ rfl;have s6:=hsc.1 6 _ rfl;have s7:=hsc.1 7 _ rfl;have s8:=hsc.1 8 _ rfl;have n1:=hsc.2 1 _ rfl;have n3:=hsc.2 3 _ rfl;have n4:=hsc.2 4 _ rfl;have n5:=hsc.2 5 _ rfl;have n6:=hsc.2 6 _ rfl;have HB2:=yH (HB1.out.trans (hb.mono HB1.out.size));clear hb hsc)))
            go_ret
            first|exact⟨ret_bool HR.out.symm,HB2.out⟩|exact⟨ret_bool HR.out.symm,HB1.out⟩
          · cases P
            · go_enter Tryz.func145,Tryz.ntmps145
              go_wp2_with ((go_at_call 182;refine(has_any _ _ _ _).mono ?_;rintro e w1 ⟨rfl,hb⟩;first
                  |(rw[HKA.out];have hsc:=SC.below HSC.out hb;have s3:=hsc.1 3 _ rfl;have s4:=hsc.1 4 _ rfl;have s5:=hsc.1 5 _ rfl;have s6:=hsc.1 6 _ rfl;have s7:=hsc.1 7 _ rfl;have s8:=hsc.1 8 _ rfl;have n1:=hsc.2 1 _ rfl;have n3:=hsc.2 3 _ rfl;have n4:=hsc.2 4 _ rfl;have n5:=hsc.2 5 _ rfl;have n6:=hsc.2 6 _ rfl;have HS1:=yH hsc;have HB1:=yH ((HB.out _ _).trans (hb.mono (HB.out _ _).size));clear hb hsc)
                  |(rw[HWB.out];have hsc:=SC.below HS1.out hb;have s5:=hsc.1 5 _ rfl;have s6:=hsc.1 6 _ rfl;have s7:=hsc.1 7 _ rfl;have s8:=hsc.1 8 _ rfl;have n1:=hsc.2 1 _ rfl;have n3:=hsc.2 3 _ rfl;have n4:=hsc.2 4 _ rfl;have n5:=hsc.2 5 _ rfl;have n6:=hsc.2 6 _ rfl;have HB2:=yH (HB1.out.trans (hb.mono HB1.out.size));clear hb hsc)))
              go_ret
              first|exact⟨ret_bool HR.out.symm,HB2.out⟩|exact⟨ret_bool HR.out.symm,HB1.out⟩
            · cases sa
              · cases EA
                · go_enter Tryz.func145,Tryz.ntmps145
                  go_wp2_with ((go_at_call 182;refine(has_any _ _ _ _).mono ?_;rintro e w1 ⟨rfl,hb⟩;first
                      |(rw[HKA.out];have hsc:=SC.below HSC.out hb;have s3:=hsc.1 3 _ rfl;have s4:=hsc.1 4 _ rfl;have s5:=hsc.1 5 _ rfl;have s6:=hsc.1 6 _ rfl;have s7:=hsc.1 7 _ rfl;have s8:=hsc.1 8 _ rfl;have n1:=hsc.2 1 _ rfl;have n3:=hsc.2 3 _ rfl;have n4:=hsc.2 4 _ rfl;have n5:=hsc.2 5 _ rfl;have n6:=hsc.2 6 _ rfl;have HS1:=yH hsc;have HB1:=yH ((HB.out _ _).trans (hb.mono (HB.out _ _).size));clear hb hsc)
                      |(rw[HWB.out];have hsc:=SC.below HS1.out hb;have s5:=hsc.1 5 _ rfl;have s6:=hsc.1 6 _ rfl;have s7:=hsc.1 7 _ rfl;have s8:=hsc.1 8 _ rfl;have n1:=hsc.2 1 _ rfl;have n3:=hsc.2 3 _ rfl;have n4:=hsc.2 4 _ rfl;have n5:=hsc.2 5 _ rfl;have n6:=hsc.2 6 _ rfl;have HB2:=yH (HB1.out.trans (hb.mono HB1.out.size));clear hb hsc)))
                  go_ret
                  first|exact⟨ret_bool HR.out.symm,HB2.out⟩|exact⟨ret_bool HR.out.symm,HB1.out⟩
                · cases sr
                  · cases ER
                    · go_enter Tryz.func145,Tryz.ntmps145
                      go_wp2_with ((go_at_call 182;refine(has_any _ _ _ _).mono ?_;rintro e w1 ⟨rfl,hb⟩;first
                          |(rw[HKA.out];have hsc:=SC.below HSC.out hb;have s3:=hsc.1 3 _ rfl;have s4:=hsc.1 4 _ rfl;have s5:=hsc.1 5 _ rfl;have s6:=hsc.1 6 _ rfl;have s7:=hsc.1 7 _ rfl;have s8:=hsc.1 8 _ rfl;have n1:=hsc.2 1 _ rfl;have n3:=hsc.2 3 _ rfl;have n4:=hsc.2 4 _ rfl;have n5:=hsc.2 5 _ rfl;have n6:=hsc.2 6 _ rfl;have HS1:=yH hsc;have HB1:=yH ((HB.out _ _).trans (hb.mono (HB.out _ _).size));clear hb hsc)
                          |(rw[HWB.out];have hsc:=SC.below HS1.out hb;have s5:=hsc.1 5 _ rfl;have s6:=hsc.1 6 _ rfl;have s7:=hsc.1 7 _ rfl;have s8:=hsc.1 8 _ rfl;have n1:=hsc.2 1 _ rfl;have n3:=hsc.2 3 _ rfl;have n4:=hsc.2 4 _ rfl;have n5:=hsc.2 5 _ rfl;have n6:=hsc.2 6 _ rfl;have HB2:=yH (HB1.out.trans (hb.mono HB1.out.size));clear hb hsc)))
                      go_ret
                      first|exact⟨ret_bool HR.out.symm,HB2.out⟩|exact⟨ret_bool HR.out.symm,HB1.out⟩
                    · go_enter Tryz.func145,Tryz.ntmps145
                      go_wp2_with ((go_at_call 182;refine(has_any _ _ _ _).mono ?_;rintro e w1 ⟨rfl,hb⟩;first
                          |(rw[HKA.out];have hsc:=SC.below HSC.out hb;have s3:=hsc.1 3 _ rfl;have s4:=hsc.1 4 _ rfl;have s5:=hsc.1 5 _ rfl;have s6:=hsc.1 6 _ rfl;have s7:=hsc.1 7 _ rfl;have s8:=hsc.1 8 _ rfl;have n1:=hsc.2 1 _ rfl;have n3:=hsc.2 3 _ rfl;have n4:=hsc.2 4 _ rfl;have n5:=hsc.2 5 _ rfl;have n6:=hsc.2 6 _ rfl;have HS1:=yH hsc;have HB1:=yH ((HB.out _ _).trans (hb.mono (HB.out _ _).size));clear hb hsc)
                          |(rw[HWB.out];have hsc:=SC.below HS1.out hb;have s5:=hsc.1 5 _ rfl;have s6:=hsc.1 6 _ rfl;have s7:=hsc.1 7 _ rfl;have s8:=hsc.1 8 _ rfl;have n1:=hsc.2 1 _ rfl;have n3:=hsc.2 3 _ rfl;have n4:=hsc.2 4 _ rfl;have n5:=hsc.2 5 _ rfl;have n6:=hsc.2 6 _ rfl;have HB2:=yH (HB1.out.trans (hb.mono HB1.out.size));clear hb hsc)))
                      go_ret
                      first|exact⟨ret_bool HR.out.symm,HB2.out⟩|exact⟨ret_bool HR.out.symm,HB1.out⟩
                  · go_enter Tryz.func145,Tryz.ntmps145
                    go_wp2_with ((go_at_call 182;refine(has_any _ _ _ _).mono ?_;rintro e w1 ⟨rfl,hb⟩;first
                        |(rw[HKA.out];have hsc:=SC.below HSC.out hb;have s3:=hsc.1 3 _ rfl;have s4:=hsc.1 4 _ rfl;have s5:=hsc.1 5 _ rfl;have s6:=hsc.1 6 _ rfl;have s7:=hsc.1 7 _ rfl;have s8:=hsc.1 8 _ rfl;have n1:=hsc.2 1 _ rfl;have n3:=hsc.2 3 _ rfl;have n4:=hsc.2 4 _ rfl;have n5:=hsc.2 5 _ rfl;have n6:=hsc.2 6 _ rfl;have HS1:=yH hsc;have HB1:=yH ((HB.out _ _).trans (hb.mono (HB.out _ _).size));clear hb hsc)
                        |(rw[HWB.out];have hsc:=SC.below HS1.out hb;have s5:=hsc.1 5 _ rfl;have s6:=hsc.1 6 _ rfl;have s7:=hsc.1 7 _ rfl;have s8:=hsc.1 8 _ rfl;have n1:=hsc.2 1 _ rfl;have n3:=hsc.2 3 _ rfl;have n4:=hsc.2 4 _ rfl;have n5:=hsc.2 5 _ rfl;have n6:=hsc.2 6 _ rfl;have HB2:=yH (HB1.out.trans (hb.mono HB1.out.size));clear hb hsc)))
                    go_ret
                    first|exact⟨ret_bool HR.out.symm,HB2.out⟩|exact⟨ret_bool HR.out.symm,HB1.out⟩
              · cases sr
                · cases ER
                  · go_enter Tryz.func145,Tryz.ntmps145
                    go_wp2_with ((go_at_call 182;refine(has_any _ _ _ _).mono ?_;rintro e w1 ⟨rfl,hb⟩;first
                        |(rw[HKA.out];have hsc:=SC.below HSC.out hb;have s3:=hsc.1 3 _ rfl;have s4:=hsc.1 4 _ rfl;have s5:=hsc.1 5 _ rfl;have s6:=hsc.1 6 _ rfl;have s7:=hsc.1 7 _ rfl;have s8:=hsc.1 8 _ rfl;have n1:=hsc.2 1 _ rfl;have n3:=hsc.2 3 _ rfl;have n4:=hsc.2 4 _ rfl;have n5:=hsc.2 5 _ rfl;have n6:=hsc.2 6 _ rfl;have HS1:=yH hsc;have HB1:=yH ((HB.out _ _).trans (hb.mono (HB.out _ _).size));clear hb hsc)
                        |(rw[HWB.out];have hsc:=SC.below HS1.out hb;have s5:=hsc.1 5 _ rfl;have s6:=hsc.1 6 _ rfl;have s7:=hsc.1 7 _ rfl;have s8:=hsc.1 8 _ rfl;have n1:=hsc.2 1 _ rfl;have n3:=hsc.2 3 _ rfl;have n4:=hsc.2 4 _ rfl;have n5:=hsc.2 5 _ rfl;have n6:=hsc.2 6 _ rfl;have HB2:=yH (HB1.out.trans (hb.mono HB1.out.size));clear hb hsc)))
                    go_ret
                    first|exact⟨ret_bool HR.out.symm,HB2.out⟩|exact⟨ret_bool HR.out.symm,HB1.out⟩
                  · go_enter Tryz.func145,Tryz.ntmps145
                    go_wp2_with ((go_at_call 182;refine(has_any _ _ _ _).mono ?_;rintro e w1 ⟨rfl,hb⟩;first
                        |(rw[HKA.out];have hsc:=SC.below HSC.out hb;have s3:=hsc.1 3 _ rfl;have s4:=hsc.1 4 _ rfl;have s5:=hsc.1 5 _ rfl;have s6:=hsc.1 6 _ rfl;have s7:=hsc.1 7 _ rfl;have s8:=hsc.1 8 _ rfl;have n1:=hsc.2 1 _ rfl;have n3:=hsc.2 3 _ rfl;have n4:=hsc.2 4 _ rfl;have n5:=hsc.2 5 _ rfl;have n6:=hsc.2 6 _ rfl;have HS1:=yH hsc;have HB1:=yH ((HB.out _ _).trans (hb.mono (HB.out _ _).size));clear hb hsc)
                        |(rw[HWB.out];have hsc:=SC.below HS1.out hb;have s5:=hsc.1 5 _ rfl;have s6:=hsc.1 6 _ rfl;have s7:=hsc.1 7 _ rfl;have s8:=hsc.1 8 _ rfl;have n1:=hsc.2 1 _ rfl;have n3:=hsc.2 3 _ rfl;have n4:=hsc.2 4 _ rfl;have n5:=hsc.2 5 _ rfl;have n6:=hsc.2 6 _ rfl;have HB2:=yH (HB1.out.trans (hb.mono HB1.out.size));clear hb hsc)))
                    go_ret
                    first|exact⟨ret_bool HR.out.symm,HB2.out⟩|exact⟨ret_bool HR.out.symm,HB1.out⟩
                · go_enter Tryz.func145,Tryz.ntmps145
                  go_wp2_with ((go_at_call 182;refine(has_any _ _ _ _).mono ?_;rintro e w1 ⟨rfl,hb⟩;first
                      |(rw[HKA.out];have hsc:=SC.below HSC.out hb;have s3:=hsc.1 3 _ rfl;have s4:=hsc.1 4 _ rfl;have s5:=hsc.1 5 _ rfl;have s6:=hsc.1 6 _ rfl;have s7:=hsc.1 7 _ rfl;have s8:=hsc.1 8 _ rfl;have n1:=hsc.2 1 _ rfl;have n3:=hsc.2 3 _ rfl;have n4:=hsc.2 4 _ rfl;have n5:=hsc.2 5 _ rfl;have n6:=hsc.2 6 _ rfl;have HS1:=yH hsc;have HB1:=yH ((HB.out _ _).trans (hb.mono (HB.out _ _).size));clear hb hsc)
                      |(rw[HWB.out];have hsc:=SC.below HS1.out hb;have s5:=hsc.1 5 _ rfl;have s6:=hsc.1 6 _ rfl;have s7:=hsc.1 7 _ rfl;have s8:=hsc.1 8 _ rfl;have n1:=hsc.2 1 _ rfl;have n3:=hsc.2 3 _ rfl;have n4:=hsc.2 4 _ rfl;have n5:=hsc.2 5 _ rfl;have n6:=hsc.2 6 _ rfl;have HB2:=yH (HB1.out.trans (hb.mono HB1.out.size));clear hb hsc)))
                  go_ret
                  first|exact⟨ret_bool HR.out.symm,HB2.out⟩|exact⟨ret_bool HR.out.symm,HB1.out⟩
        · cases X
          · cases P
            · go_enter Tryz.func145,Tryz.ntmps145
              go_wp2_with ((go_at_call 182;refine(has_any _ _ _ _).mono ?_;rintro e w1 ⟨rfl,hb⟩;first
                  |(rw[HKA.out];have hsc:=SC.below HSC.out hb;have s3:=hsc.1 3 _ rfl;have s4:=hsc.1 4 _ rfl;have s5:=hsc.1 5 _ rfl;have s6:=hsc.1 6 _ rfl;have s7:=hsc.1 7 _ rfl;have s8:=hsc.1 8 _ rfl;have n1:=hsc.2 1 _ rfl;have n3:=hsc.2 3 _ rfl;have n4:=hsc.2 4 _ rfl;have n5:=hsc.2 5 _ rfl;have n6:=hsc.2 6 _ rfl;have HS1:=yH hsc;have HB1:=yH ((HB.out _ _).trans (hb.mono (HB.out _ _).size));clear hb hsc)
                  |(rw[HWB.out];have hsc:=SC.below HS1.out hb;have s5:=hsc.1 5 _ rfl;have s6:=hsc.1 6 _ rfl;have s7:=hsc.1 7 _ rfl;have s8:=hsc.1 8 _ rfl;have n1:=hsc.2 1 _ rfl;have n3:=hsc.2 3 _ rfl;have n4:=hsc.2 4 _ rfl;have n5:=hsc.2 5 _ rfl;have n6:=hsc.2 6 _ rfl;have HB2:=yH (HB1.out.trans (hb.mono HB1.out.size));clear hb hsc)))
              go_ret
              first|exact⟨ret_bool HR.out.symm,HB2.out⟩|exact⟨ret_bool HR.out.symm,HB1.out⟩
            · cases sa
              · cases EA
                · go_enter Tryz.func145,Tryz.ntmps145
                  go_wp2_with ((go_at_call 182;refine(has_any _ _ _ _).mono ?_;rintro e w1 ⟨rfl,hb⟩;first
                      |(rw[HKA.out];have hsc:=SC.below HSC.out hb;have s3:=hsc.1 3 _ rfl;have s4:=hsc.1 4 _ rfl;have s5:=hsc.1 5 _ rfl;have s6:=hsc.1 6 _ rfl;have s7:=hsc.1 7 _ rfl;have s8:=hsc.1 8 _ rfl;have n1:=hsc.2 1 _ rfl;have n3:=hsc.2 3 _ rfl;have n4:=hsc.2 4 _ rfl;have n5:=hsc.2 5 _ rfl;have n6:=hsc.2 6 _ rfl;have HS1:=yH hsc;have HB1:=yH ((HB.out _ _).trans (hb.mono (HB.out _ _).size));clear hb hsc)
                      |(rw[HWB.out];have hsc:=SC.below HS1.out hb;have s5:=hsc.1 5 _ rfl;have s6:=hsc.1 6 _ rfl;have s7:=hsc.1 7 _ rfl;have s8:=hsc.1 8 _ rfl;have n1:=hsc.2 1 _ rfl;have n3:=hsc.2 3 _ rfl;have n4:=hsc.2 4 _ rfl;have n5:=hsc.2 5 _ rfl;have n6:=hsc.2 6 _ rfl;have HB2:=yH (HB1.out.trans (hb.mono HB1.out.size));clear hb hsc)))
                  go_ret
                  first|exact⟨ret_bool HR.out.symm,HB2.out⟩|exact⟨ret_bool HR.out.symm,HB1.out⟩
                · cases sr
                  · cases ER
                    · go_enter Tryz.func145,Tryz.ntmps145
                      go_wp2_with ((go_at_call 182;refine(has_any _ _ _ _).mono ?_;rintro e w1 ⟨rfl,hb⟩;first
                          |(rw[HKA.out];have hsc:=SC.below HSC.out hb;have s3:=hsc.1 3 _ rfl;have s4:=hsc.1 4 _ rfl;have s5:=hsc.1 5 _ rfl;have s6:=hsc.1 6 _ rfl;have s7:=hsc.1 7 _ rfl;have s8:=hsc.1 8 _ rfl;have n1:=hsc.2 1 _ rfl;have n3:=hsc.2 3 _ rfl;have n4:=hsc.2 4 _ rfl;have n5:=hsc.2 5 _ rfl;have n6:=hsc.2 6 _ rfl;have HS1:=yH hsc;have HB1:=yH ((HB.out _ _).trans (hb.mono (HB.out _ _).size));clear hb hsc)
                          |(rw[HWB.out];have hsc:=SC.below HS1.out hb;have s5:=hsc.1 5 _ rfl;have s6:=hsc.1 6 _ rfl;have s7:=hsc.1 7 _ rfl;have s8:=hsc.1 8 _ rfl;have n1:=hsc.2 1 _ rfl;have n3:=hsc.2 3 _ rfl;have n4:=hsc.2 4 _ rfl;have n5:=hsc.2 5 _ rfl;have n6:=hsc.2 6 _ rfl;have HB2:=yH (HB1.out.trans (hb.mono HB1.out.size));clear hb hsc)))
                      go_ret
                      first|exact⟨ret_bool HR.out.symm,HB2.out⟩|exact⟨ret_bool HR.out.symm,HB1.out⟩
                    · go_enter Tryz.func145,Tryz.ntmps145
                      go_wp2_with ((go_at_call 182;refine(has_any _ _ _ _).mono ?_;rintro e w1 ⟨rfl,hb⟩;first
                          |(rw[HKA.out];have hsc:=SC.below HSC.out hb;have s3:=hsc.1 3 _ rfl;have s4:=hsc.1 4 _ rfl;have s5:=hsc.1 5 _ rfl;have s6:=hsc.1 6 _ rfl;have s7:=hsc.1 7 _ rfl;have s8:=hsc.1 8 _ rfl;have n1:=hsc.2 1 _ rfl;have n3:=hsc.2 3 _ rfl;have n4:=hsc.2 4 _ rfl;have n5:=hsc.2 5 _ rfl;have n6:=hsc.2 6 _ rfl;have HS1:=yH hsc;have HB1:=yH ((HB.out _ _).trans (hb.mono (HB.out _ _).size));clear hb hsc)
                          |(rw[HWB.out];have hsc:=SC.below HS1.out hb;have s5:=hsc.1 5 _ rfl;have s6:=hsc.1 6 _ rfl;have s7:=hsc.1 7 _ rfl;have s8:=hsc.1 8 _ rfl;have n1:=hsc.2 1 _ rfl;have n3:=hsc.2 3 _ rfl;have n4:=hsc.2 4 _ rfl;have n5:=hsc.2 5 _ rfl;have n6:=hsc.2 6 _ rfl;have HB2:=yH (HB1.out.trans (hb.mono HB1.out.size));clear hb hsc)))
                      go_ret
                      first|exact⟨ret_bool HR.out.symm,HB2.out⟩|exact⟨ret_bool HR.out.symm,HB1.out⟩
                  · go_enter Tryz.func145,Tryz.ntmps145
                    go_wp2_with ((go_at_call 182;refine(has_any _ _ _ _).mono ?_;rintro e w1 ⟨rfl,hb⟩;first
                        |(rw[HKA.out];have hsc:=SC.below HSC.out hb;have s3:=hsc.1 3 _ rfl;have s4:=hsc.1 4 _ rfl;have s5:=hsc.1 5 _ rfl;have s6:=hsc.1 6 _ rfl;have s7:=hsc.1 7 _ rfl;have s8:=hsc.1 8 _ rfl;have n1:=hsc.2 1 _ rfl;have n3:=hsc.2 3 _ rfl;have n4:=hsc.2 4 _ rfl;have n5:=hsc.2 5 _ rfl;have n6:=hsc.2 6 _ rfl;have HS1:=yH hsc;have HB1:=yH ((HB.out _ _).trans (hb.mono (HB.out _ _).size));clear hb hsc)
                        |(rw[HWB.out];have hsc:=SC.below HS1.out hb;have s5:=hsc.1 5 _ rfl;have s6:=hsc.1 6 _ rfl;have s7:=hsc.1 7 _ rfl;have s8:=hsc.1 8 _ rfl;have n1:=hsc.2 1 _ rfl;have n3:=hsc.2 3 _ rfl;have n4:=hsc.2 4 _ rfl;have n5:=hsc.2 5 _ rfl;have n6:=hsc.2 6 _ rfl;have HB2:=yH (HB1.out.trans (hb.mono HB1.out.size));clear hb hsc)))
                    go_ret
                    first|exact⟨ret_bool HR.out.symm,HB2.out⟩|exact⟨ret_bool HR.out.symm,HB1.out⟩
              · cases sr
                · cases ER
                  · go_enter Tryz.func145,Tryz.ntmps145
                    go_wp2_with ((go_at_call 182;refine(has_any _ _ _ _).mono ?_;rintro e w1 ⟨rfl,hb⟩;first
                        |(rw[HKA.out];have hsc:=SC.below HSC.out hb;have s3:=hsc.1 3 _ rfl;have s4:=hsc.1 4 _ rfl;have s5:=hsc.1 5 _ rfl;have s6:=hsc.1 6 _ rfl;have s7:=hsc.1 7 _ rfl;have s8:=hsc.1 8 _ rfl;have n1:=hsc.2 1 _ rfl;have n3:=hsc.2 3 _ rfl;have n4:=hsc.2 4 _ rfl;have n5:=hsc.2 5 _ rfl;have n6:=hsc.2 6 _ rfl;have HS1:=yH hsc;have HB1:=yH ((HB.out _ _).trans (hb.mono (HB.out _ _).size));clear hb hsc)
                        |(rw[HWB.out];have hsc:=SC.below HS1.out hb;have s5:=hsc.1 5 _ rfl;have s6:=hsc.1 6 _ rfl;have s7:=hsc.1 7 _ rfl;have s8:=hsc.1 8 _ rfl;have n1:=hsc.2 1 _ rfl;have n3:=hsc.2 3 _ rfl;have n4:=hsc.2 4 _ rfl;have n5:=hsc.2 5 _ rfl;have n6:=hsc.2 6 _ rfl;have HB2:=yH (HB1.out.trans (hb.mono HB1.out.size));clear hb hsc)))
                    go_ret
                    first|exact⟨ret_bool HR.out.symm,HB2.out⟩|exact⟨ret_bool HR.out.symm,HB1.out⟩
                  · go_enter Tryz.func145,Tryz.ntmps145
                    go_wp2_with ((go_at_call 182;refine(has_any _ _ _ _).mono ?_;rintro e w1 ⟨rfl,hb⟩;first
                        |(rw[HKA.out];have hsc:=SC.below HSC.out hb;have s3:=hsc.1 3 _ rfl;have s4:=hsc.1 4 _ rfl;have s5:=hsc.1 5 _ rfl;have s6:=hsc.1 6 _ rfl;have s7:=hsc.1 7 _ rfl;have s8:=hsc.1 8 _ rfl;have n1:=hsc.2 1 _ rfl;have n3:=hsc.2 3 _ rfl;have n4:=hsc.2 4 _ rfl;have n5:=hsc.2 5 _ rfl;have n6:=hsc.2 6 _ rfl;have HS1:=yH hsc;have HB1:=yH ((HB.out _ _).trans (hb.mono (HB.out _ _).size));clear hb hsc)
                        |(rw[HWB.out];have hsc:=SC.below HS1.out hb;have s5:=hsc.1 5 _ rfl;have s6:=hsc.1 6 _ rfl;have s7:=hsc.1 7 _ rfl;have s8:=hsc.1 8 _ rfl;have n1:=hsc.2 1 _ rfl;have n3:=hsc.2 3 _ rfl;have n4:=hsc.2 4 _ rfl;have n5:=hsc.2 5 _ rfl;have n6:=hsc.2 6 _ rfl;have HB2:=yH (HB1.out.trans (hb.mono HB1.out.size));clear hb hsc)))
                    go_ret
                    first|exact⟨ret_bool HR.out.symm,HB2.out⟩|exact⟨ret_bool HR.out.symm,HB1.out⟩
                · go_enter Tryz.func145,Tryz.ntmps145
                  go_wp2_with ((go_at_call 182;refine(has_any _ _ _ _).mono ?_;rintro e w1 ⟨rfl,hb⟩;first
                      |(rw[HKA.out];have hsc:=SC.below HSC.out hb;have s3:=hsc.1 3 _ rfl;have s4:=hsc.1 4 _ rfl;have s5:=hsc.1 5 _ rfl;have s6:=hsc.1 6 _ rfl;have s7:=hsc.1 7 _ rfl;have s8:=hsc.1 8 _ rfl;have n1:=hsc.2 1 _ rfl;have n3:=hsc.2 3 _ rfl;have n4:=hsc.2 4 _ rfl;have n5:=hsc.2 5 _ rfl;have n6:=hsc.2 6 _ rfl;have HS1:=yH hsc;have HB1:=yH ((HB.out _ _).trans (hb.mono (HB.out _ _).size));clear hb hsc)
                      |(rw[HWB.out];have hsc:=SC.below HS1.out hb;have s5:=hsc.1 5 _ rfl;have s6:=hsc.1 6 _ rfl;have s7:=hsc.1 7 _ rfl;have s8:=hsc.1 8 _ rfl;have n1:=hsc.2 1 _ rfl;have n3:=hsc.2 3 _ rfl;have n4:=hsc.2 4 _ rfl;have n5:=hsc.2 5 _ rfl;have n6:=hsc.2 6 _ rfl;have HB2:=yH (HB1.out.trans (hb.mono HB1.out.size));clear hb hsc)))
                  go_ret
                  first|exact⟨ret_bool HR.out.symm,HB2.out⟩|exact⟨ret_bool HR.out.symm,HB1.out⟩
          · go_enter Tryz.func145,Tryz.ntmps145
            go_wp2_with ((go_at_call 182;refine(has_any _ _ _ _).mono ?_;rintro e w1 ⟨rfl,hb⟩;first
                |(rw[HKA.out];have hsc:=SC.below HSC.out hb;have s3:=hsc.1 3 _ rfl;have s4:=hsc.1 4 _ rfl;have s5:=hsc.1 5 _ rfl;have s6:=hsc.1 6 _ rfl;have s7:=hsc.1 7 _ rfl;have s8:=hsc.1 8 _ rfl;have n1:=hsc.2 1 _ rfl;have n3:=hsc.2 3 _ rfl;have n4:=hsc.2 4 _ rfl;have n5:=hsc.2 5 _ rfl;have n6:=hsc.2 6 _ rfl;have HS1:=yH hsc;have HB1:=yH ((HB.out _ _).trans (hb.mono (HB.out _ _).size));clear hb hsc)
                |(rw[HWB.out];have hsc:=SC.below HS1.out hb;have s5:=hsc.1 5 _ rfl;have s6:=hsc.1 6 _ rfl;have s7:=hsc.1 7 _ rfl;have s8:=hsc.1 8 _ rfl;have n1:=hsc.2 1 _ rfl;have n3:=hsc.2 3 _ rfl;have n4:=hsc.2 4 _ rfl;have n5:=hsc.2 5 _ rfl;have n6:=hsc.2 6 _ rfl;have HB2:=yH (HB1.out.trans (hb.mono HB1.out.size));clear hb hsc)))
            go_ret
            first|exact⟨ret_bool HR.out.symm,HB2.out⟩|exact⟨ret_bool HR.out.symm,HB1.out⟩
end Go.Proofs.YtcpmjkefbjbhpaaGreatDoor
