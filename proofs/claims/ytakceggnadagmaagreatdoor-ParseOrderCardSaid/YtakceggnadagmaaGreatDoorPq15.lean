/-
  Proved: contracts of functions, plain facts. Conditions: as each says.
-/
import Derived.Test.YtakceggnadagmaaGreatDoorPq14
import Derived.Test.YtakceggnadagmaaGreatDoorPq12
import Derived.OwnWalk
import Derived.Lib.OthersKept
import Derived.Test.YtakceggnadagmaaGreatDoorPq02
import Derived.Test.YtakceggnadagmaaGreatDoorPq00
import Derived.Test.YtakceggnadagmaaGreatDoorPq07
import Derived.Test.YtakceggnadagmaaGreatDoorPq10
namespace Go.Proofs.YtakceggnadagmaaGreatDoor
open Go Go.RowKit GlyphMath LexMath
def signCells:List Value:= [.string ⟨#[38,38]⟩,.string ⟨#[124,124]⟩,.string ⟨#[59,59]⟩,.string ⟨#[62,62]⟩,.string ⟨#[59]⟩,.string ⟨#[124]⟩,.string ⟨#[40]⟩,.string ⟨#[41]⟩,.string ⟨#[62]⟩,.string ⟨#[60]⟩,.string ⟨#[10]⟩]
def Signs (w:World):Prop:=w.rangeAt 0 0 signCells
theorem Signs.kept {D:Nat→Prop} {w w':World} (h:Signs w) (hk:Kept D w w') (hD:¬D 0):Signs w':=fun j v hj=>hk.cell (h j v hj) hD
theorem info_signs:(Tryz.prog.info? 149).map (·.size)=some signCells.length:=by kernel_rfl
theorem sign_at0 (w:World):(Instr.index 149 (.agg #[.string ⟨#[38,38]⟩,.string ⟨#[124,124]⟩,.string ⟨#[59,59]⟩,.string ⟨#[62,62]⟩,.string ⟨#[59]⟩,.string ⟨#[124]⟩,.string ⟨#[40]⟩,.string ⟨#[41]⟩,.string ⟨#[62]⟩,.string ⟨#[60]⟩,.string ⟨#[10]⟩]) (.int .i64 0)).run Tryz.prog w= .ok (.string ⟨#[38,38]⟩) w:=by kernel_rfl
theorem sign_at1 (w:World):(Instr.index 149 (.agg #[.string ⟨#[38,38]⟩,.string ⟨#[124,124]⟩,.string ⟨#[59,59]⟩,.string ⟨#[62,62]⟩,.string ⟨#[59]⟩,.string ⟨#[124]⟩,.string ⟨#[40]⟩,.string ⟨#[41]⟩,.string ⟨#[62]⟩,.string ⟨#[60]⟩,.string ⟨#[10]⟩]) (.int .i64 1)).run Tryz.prog w= .ok (.string ⟨#[124,124]⟩) w:=by kernel_rfl
theorem sign_at2 (w:World):(Instr.index 149 (.agg #[.string ⟨#[38,38]⟩,.string ⟨#[124,124]⟩,.string ⟨#[59,59]⟩,.string ⟨#[62,62]⟩,.string ⟨#[59]⟩,.string ⟨#[124]⟩,.string ⟨#[40]⟩,.string ⟨#[41]⟩,.string ⟨#[62]⟩,.string ⟨#[60]⟩,.string ⟨#[10]⟩]) (.int .i64 2)).run Tryz.prog w= .ok (.string ⟨#[59,59]⟩) w:=by kernel_rfl
theorem sign_at3 (w:World):(Instr.index 149 (.agg #[.string ⟨#[38,38]⟩,.string ⟨#[124,124]⟩,.string ⟨#[59,59]⟩,.string ⟨#[62,62]⟩,.string ⟨#[59]⟩,.string ⟨#[124]⟩,.string ⟨#[40]⟩,.string ⟨#[41]⟩,.string ⟨#[62]⟩,.string ⟨#[60]⟩,.string ⟨#[10]⟩]) (.int .i64 3)).run Tryz.prog w= .ok (.string ⟨#[62,62]⟩) w:=by kernel_rfl
theorem sign_at4 (w:World):(Instr.index 149 (.agg #[.string ⟨#[38,38]⟩,.string ⟨#[124,124]⟩,.string ⟨#[59,59]⟩,.string ⟨#[62,62]⟩,.string ⟨#[59]⟩,.string ⟨#[124]⟩,.string ⟨#[40]⟩,.string ⟨#[41]⟩,.string ⟨#[62]⟩,.string ⟨#[60]⟩,.string ⟨#[10]⟩]) (.int .i64 4)).run Tryz.prog w= .ok (.string ⟨#[59]⟩) w:=by kernel_rfl
theorem sign_at5 (w:World):(Instr.index 149 (.agg #[.string ⟨#[38,38]⟩,.string ⟨#[124,124]⟩,.string ⟨#[59,59]⟩,.string ⟨#[62,62]⟩,.string ⟨#[59]⟩,.string ⟨#[124]⟩,.string ⟨#[40]⟩,.string ⟨#[41]⟩,.string ⟨#[62]⟩,.string ⟨#[60]⟩,.string ⟨#[10]⟩]) (.int .i64 5)).run Tryz.prog w= .ok (.string ⟨#[124]⟩) w:=by kernel_rfl
theorem sign_at6 (w:World):(Instr.index 149 (.agg #[.string ⟨#[38,38]⟩,.string ⟨#[124,124]⟩,.string ⟨#[59,59]⟩,.string ⟨#[62,62]⟩,.string ⟨#[59]⟩,.string ⟨#[124]⟩,.string ⟨#[40]⟩,.string ⟨#[41]⟩,.string ⟨#[62]⟩,.string ⟨#[60]⟩,.string ⟨#[10]⟩]) (.int .i64 6)).run Tryz.prog w= .ok (.string ⟨#[40]⟩) w:=by kernel_rfl
theorem sign_at7 (w:World):(Instr.index 149 (.agg #[.string ⟨#[38,38]⟩,.string ⟨#[124,124]⟩,.string ⟨#[59,59]⟩,.string ⟨#[62,62]⟩,.string ⟨#[59]⟩,.string ⟨#[124]⟩,.string ⟨#[40]⟩,.string ⟨#[41]⟩,.string ⟨#[62]⟩,.string ⟨#[60]⟩,.string ⟨#[10]⟩]) (.int .i64 7)).run Tryz.prog w= .ok (.string ⟨#[41]⟩) w:=by kernel_rfl
theorem sign_at8 (w:World):(Instr.index 149 (.agg #[.string ⟨#[38,38]⟩,.string ⟨#[124,124]⟩,.string ⟨#[59,59]⟩,.string ⟨#[62,62]⟩,.string ⟨#[59]⟩,.string ⟨#[124]⟩,.string ⟨#[40]⟩,.string ⟨#[41]⟩,.string ⟨#[62]⟩,.string ⟨#[60]⟩,.string ⟨#[10]⟩]) (.int .i64 8)).run Tryz.prog w= .ok (.string ⟨#[62]⟩) w:=by kernel_rfl
theorem sign_at9 (w:World):(Instr.index 149 (.agg #[.string ⟨#[38,38]⟩,.string ⟨#[124,124]⟩,.string ⟨#[59,59]⟩,.string ⟨#[62,62]⟩,.string ⟨#[59]⟩,.string ⟨#[124]⟩,.string ⟨#[40]⟩,.string ⟨#[41]⟩,.string ⟨#[62]⟩,.string ⟨#[60]⟩,.string ⟨#[10]⟩]) (.int .i64 9)).run Tryz.prog w= .ok (.string ⟨#[60]⟩) w:=by kernel_rfl
theorem sign_at10 (w:World):(Instr.index 149 (.agg #[.string ⟨#[38,38]⟩,.string ⟨#[124,124]⟩,.string ⟨#[59,59]⟩,.string ⟨#[62,62]⟩,.string ⟨#[59]⟩,.string ⟨#[124]⟩,.string ⟨#[40]⟩,.string ⟨#[41]⟩,.string ⟨#[62]⟩,.string ⟨#[60]⟩,.string ⟨#[10]⟩]) (.int .i64 10)).run Tryz.prog w= .ok (.string ⟨#[10]⟩) w:=by kernel_rfl
def SignEnd (w w':World) (e:Ending) (X G sz:Nat) (xs:List Nat) (m:Option (List Nat×List Nat)):Prop:=
  match m with
  |some (p,r)=>e= .returned (txt (enc p))∧RStep w w' X G sz r
  |none=>e= .returned (txt [])∧RStep w w' X G sz xs
structure SgAt (w wr:World) (X G sz:Nat) (xs:List Nat) (M:Option (List Nat×List Nat)) (k:Nat):Prop where
  step:RStep w wr X G sz xs
  said:signM (signs.drop k) xs=M
theorem signM_some {p:List Nat} {l:List (List Nat)} {xs r:List Nat} (h:takes p xs=some r):signM (p::l) xs=some (p,r):=by rw[signM,h]
theorem signM_none {p:List Nat} {l:List (List Nat)} {xs:List Nat} (h:takes p xs=none):signM (p::l) xs=signM l xs:=by rw[signM,h]
set_option maxHeartbeats 4000000 in
set_option maxRecDepth 100000 in
theorem sign_any {w:World} {X G sz:Nat} {xs:List Nat} (h:Rd w X G sz xs) (hS:Signs w):
    Calls Tryz.prog 74 #[.pointer (some ⟨X,0,none⟩)] w fun e w'=>SignEnd w w' e X G sz xs (signM signs xs):=by
  have HR:=yH h;have HS:=yH hS;obtain⟨M,hM⟩:∃M,signM signs xs=M:=⟨_,rfl⟩;rw[hM];have HM:=yH hM;clear h hS hM;go_enter Tryz.func74,Tryz.ntmps74
  go_wp2_with (refine wpList_load_mid (by rfl) 149 (.global 0) (by rfl) 0 0 (by rfl) signCells _ HS.out Tryz.underlying149 (by rfl) info_signs ?_;rw[show (Value.agg signCells.toArray)=Value.agg #[.string ⟨#[38,38]⟩,.string ⟨#[124,124]⟩,.string ⟨#[59,59]⟩,.string ⟨#[62,62]⟩,.string ⟨#[59]⟩,.string ⟨#[124]⟩,.string ⟨#[40]⟩,.string ⟨#[41]⟩,.string ⟨#[62]⟩,.string ⟨#[60]⟩,.string ⟨#[10]⟩]from rfl])
  go_loopw [6] (fun i wr=> ∃k:Nat,i= .int .i64 (k:Int)∧k≤11∧SgAt w wr X G sz xs M k) (fun i _=>11-(intOf i).toNat)
  case atStart=>exact⟨0,rfl,by omega,RStep.refl HR.out,HM.out⟩
  case round=>
    obtain⟨k,rfl,hk,hA⟩:=hrel;have HA:=yH hA;clear hA
    rcases Nat.lt_or_ge k 11 with hlt|hge
    · have hcases:k=0∨k=1∨k=2∨k=3∨k=4∨k=5∨k=6∨k=7∨k=8∨k=9∨k=10:=by omega
      clear hk hlt
      rcases hcases with rfl|rfl|rfl|rfl|rfl|rfl|rfl|rfl|rfl|rfl|rfl
      · have ix:=sign_at0
        obtain⟨mt,hmt⟩:∃mt,takes [38,38] xs=mt:=⟨_,rfl⟩;have HMT:=yH hmt;clear hmt
        cases mt with
        |some r=>
          go_wp2_with (go_at_call 99;refine(takesM HA.out.step.1 ⟨#[38,38]⟩ [38,38] rfl (by decide) HMT.out).mono ?_;rintro e w2 ⟨rfl,hs⟩;simp only[Option.getD_some]at hs;have HS2:=yH hs;clear hs)
          go_ret;rw[show M=some ([38,38],r)from HA.out.said.symm.trans (signM_some HMT.out)];exact⟨rfl,HA.out.step.trans HS2.out⟩
        |none=>
          go_wp2_with (go_at_call 99;refine(takesM HA.out.step.1 ⟨#[38,38]⟩ [38,38] rfl (by decide) HMT.out).mono ?_;rintro e w2 ⟨rfl,hs⟩;simp only[Option.getD_none]at hs;have HS2:=yH hs;clear hs)
          go_roundw
          case rel=>exact⟨1,rfl,by omega,HA.out.step.trans HS2.out,(signM_none HMT.out).symm.trans HA.out.said⟩
          case measure=>decide
      · have ix:=sign_at1
        obtain⟨mt,hmt⟩:∃mt,takes [124,124] xs=mt:=⟨_,rfl⟩;have HMT:=yH hmt;clear hmt
        cases mt with
        |some r=>
          go_wp2_with (go_at_call 99;refine(takesM HA.out.step.1 ⟨#[124,124]⟩ [124,124] rfl (by decide) HMT.out).mono ?_;rintro e w2 ⟨rfl,hs⟩;simp only[Option.getD_some]at hs;have HS2:=yH hs;clear hs)
          go_ret;rw[show M=some ([124,124],r)from HA.out.said.symm.trans (signM_some HMT.out)];exact⟨rfl,HA.out.step.trans HS2.out⟩
        |none=>
          go_wp2_with (go_at_call 99;refine(takesM HA.out.step.1 ⟨#[124,124]⟩ [124,124] rfl (by decide) HMT.out).mono ?_;rintro e w2 ⟨rfl,hs⟩;simp only[Option.getD_none]at hs;have HS2:=yH hs;clear hs)
          go_roundw
          case rel=>exact⟨2,rfl,by omega,HA.out.step.trans HS2.out,(signM_none HMT.out).symm.trans HA.out.said⟩
          case measure=>decide
      · have ix:=sign_at2
        obtain⟨mt,hmt⟩:∃mt,takes [59,59] xs=mt:=⟨_,rfl⟩;have HMT:=yH hmt;clear hmt
        cases mt with
        |some r=>
          go_wp2_with (go_at_call 99;refine(takesM HA.out.step.1 ⟨#[59,59]⟩ [59,59] rfl (by decide) HMT.out).mono ?_;rintro e w2 ⟨rfl,hs⟩;simp only[Option.getD_some]at hs;have HS2:=yH hs;clear hs)
          go_ret;rw[show M=some ([59,59],r)from HA.out.said.symm.trans (signM_some HMT.out)];exact⟨rfl,HA.out.step.trans HS2.out⟩
        |none=>
          go_wp2_with (go_at_call 99;refine(takesM HA.out.step.1 ⟨#[59,59]⟩ [59,59] rfl (by decide) HMT.out).mono ?_;rintro e w2 ⟨rfl,hs⟩;simp only[Option.getD_none]at hs;have HS2:=yH hs;clear hs)
          go_roundw
          case rel=>exact⟨3,rfl,by omega,HA.out.step.trans HS2.out,(signM_none HMT.out).symm.trans HA.out.said⟩
          case measure=>decide
      · have ix:=sign_at3
        obtain⟨mt,hmt⟩:∃mt,takes [62,62] xs=mt:=⟨_,rfl⟩;have HMT:=yH hmt;clear hmt
        cases mt with
        |some r=>
          go_wp2_with (go_at_call 99;refine(takesM HA.out.step.1 ⟨#[62,62]⟩ [62,62] rfl (by decide) HMT.out).mono ?_;rintro e w2 ⟨rfl,hs⟩;simp only[Option.getD_some]at hs;have HS2:=yH hs;clear hs)
          go_ret;rw[show M=some ([62,62],r)from HA.out.said.symm.trans (signM_some HMT.out)];exact⟨rfl,HA.out.step.trans HS2.out⟩
        |none=>
          go_wp2_with (go_at_call 99;refine(takesM HA.out.step.1 ⟨#[62,62]⟩ [62,62] rfl (by decide) HMT.out).mono ?_;rintro e w2 ⟨rfl,hs⟩;simp only[Option.getD_none]at hs;have HS2:=yH hs;clear hs)
          go_roundw
          case rel=>exact⟨4,rfl,by omega,HA.out.step.trans HS2.out,(signM_none HMT.out).symm.trans HA.out.said⟩
          case measure=>decide
      · have ix:=sign_at4
        obtain⟨mt,hmt⟩:∃mt,takes [59] xs=mt:=⟨_,rfl⟩;have HMT:=yH hmt;clear hmt
        cases mt with
        |some r=>
          go_wp2_with (go_at_call 99;refine(takesM HA.out.step.1 ⟨#[59]⟩ [59] rfl (by decide) HMT.out).mono ?_;rintro e w2 ⟨rfl,hs⟩;simp only[Option.getD_some]at hs;have HS2:=yH hs;clear hs)
          go_ret;rw[show M=some ([59],r)from HA.out.said.symm.trans (signM_some HMT.out)];exact⟨rfl,HA.out.step.trans HS2.out⟩
        |none=>
          go_wp2_with (go_at_call 99;refine(takesM HA.out.step.1 ⟨#[59]⟩ [59] rfl (by decide) HMT.out).mono ?_;rintro e w2 ⟨rfl,hs⟩;simp only[Option.getD_none]at hs;have HS2:=yH hs;clear hs)
          go_roundw
          case rel=>exact⟨5,rfl,by omega,HA.out.step.trans HS2.out,(signM_none HMT.out).symm.trans HA.out.said⟩
          case measure=>decide
      · have ix:=sign_at5
        obtain⟨mt,hmt⟩:∃mt,takes [124] xs=mt:=⟨_,rfl⟩;have HMT:=yH hmt;clear hmt
        cases mt with
        |some r=>
          go_wp2_with (go_at_call 99;refine(takesM HA.out.step.1 ⟨#[124]⟩ [124] rfl (by decide) HMT.out).mono ?_;rintro e w2 ⟨rfl,hs⟩;simp only[Option.getD_some]at hs;have HS2:=yH hs;clear hs)
          go_ret;rw[show M=some ([124],r)from HA.out.said.symm.trans (signM_some HMT.out)];exact⟨rfl,HA.out.step.trans HS2.out⟩
        |none=>
          go_wp2_with (go_at_call 99;refine(takesM HA.out.step.1 ⟨#[124]⟩ [124] rfl (by decide) HMT.out).mono ?_;rintro e w2 ⟨rfl,hs⟩;simp only[Option.getD_none]at hs;have HS2:=yH hs;clear hs)
          go_roundw
          case rel=>exact⟨6,rfl,by omega,HA.out.step.trans HS2.out,(signM_none HMT.out).symm.trans HA.out.said⟩
          case measure=>decide
      · have ix:=sign_at6
        obtain⟨mt,hmt⟩:∃mt,takes [40] xs=mt:=⟨_,rfl⟩;have HMT:=yH hmt;clear hmt
        cases mt with
        |some r=>
          go_wp2_with (go_at_call 99;refine(takesM HA.out.step.1 ⟨#[40]⟩ [40] rfl (by decide) HMT.out).mono ?_;rintro e w2 ⟨rfl,hs⟩;simp only[Option.getD_some]at hs;have HS2:=yH hs;clear hs)
          go_ret;rw[show M=some ([40],r)from HA.out.said.symm.trans (signM_some HMT.out)];exact⟨rfl,HA.out.step.trans HS2.out⟩
        |none=>
          go_wp2_with (go_at_call 99;refine(takesM HA.out.step.1 ⟨#[40]⟩ [40] rfl (by decide) HMT.out).mono ?_;rintro e w2 ⟨rfl,hs⟩;simp only[Option.getD_none]at hs;have HS2:=yH hs;clear hs)
          go_roundw
          case rel=>exact⟨7,rfl,by omega,HA.out.step.trans HS2.out,(signM_none HMT.out).symm.trans HA.out.said⟩
          case measure=>decide
      · have ix:=sign_at7
        obtain⟨mt,hmt⟩:∃mt,takes [41] xs=mt:=⟨_,rfl⟩;have HMT:=yH hmt;clear hmt
        cases mt with
        |some r=>
          go_wp2_with (go_at_call 99;refine(takesM HA.out.step.1 ⟨#[41]⟩ [41] rfl (by decide) HMT.out).mono ?_;rintro e w2 ⟨rfl,hs⟩;simp only[Option.getD_some]at hs;have HS2:=yH hs;clear hs)
          go_ret;rw[show M=some ([41],r)from HA.out.said.symm.trans (signM_some HMT.out)];exact⟨rfl,HA.out.step.trans HS2.out⟩
        |none=>
          go_wp2_with (go_at_call 99;refine(takesM HA.out.step.1 ⟨#[41]⟩ [41] rfl (by decide) HMT.out).mono ?_;rintro e w2 ⟨rfl,hs⟩;simp only[Option.getD_none]at hs;have HS2:=yH hs;clear hs)
          go_roundw
          case rel=>exact⟨8,rfl,by omega,HA.out.step.trans HS2.out,(signM_none HMT.out).symm.trans HA.out.said⟩
          case measure=>decide
      · have ix:=sign_at8
        obtain⟨mt,hmt⟩:∃mt,takes [62] xs=mt:=⟨_,rfl⟩;have HMT:=yH hmt;clear hmt
        cases mt with
        |some r=>
          go_wp2_with (go_at_call 99;refine(takesM HA.out.step.1 ⟨#[62]⟩ [62] rfl (by decide) HMT.out).mono ?_;rintro e w2 ⟨rfl,hs⟩;simp only[Option.getD_some]at hs;have HS2:=yH hs;clear hs)
          go_ret;rw[show M=some ([62],r)from HA.out.said.symm.trans (signM_some HMT.out)];exact⟨rfl,HA.out.step.trans HS2.out⟩
        |none=>
          go_wp2_with (go_at_call 99;refine(takesM HA.out.step.1 ⟨#[62]⟩ [62] rfl (by decide) HMT.out).mono ?_;rintro e w2 ⟨rfl,hs⟩;simp only[Option.getD_none]at hs;have HS2:=yH hs;clear hs)
          go_roundw
          case rel=>exact⟨9,rfl,by omega,HA.out.step.trans HS2.out,(signM_none HMT.out).symm.trans HA.out.said⟩
          case measure=>decide
      · have ix:=sign_at9
        obtain⟨mt,hmt⟩:∃mt,takes [60] xs=mt:=⟨_,rfl⟩;have HMT:=yH hmt;clear hmt
        cases mt with
        |some r=>
          go_wp2_with (go_at_call 99;refine(takesM HA.out.step.1 ⟨#[60]⟩ [60] rfl (by decide) HMT.out).mono ?_;rintro e w2 ⟨rfl,hs⟩;simp only[Option.getD_some]at hs;have HS2:=yH hs;clear hs)
          go_ret;rw[show M=some ([60],r)from HA.out.said.symm.trans (signM_some HMT.out)];exact⟨rfl,HA.out.step.trans HS2.out⟩
        |none=>
          go_wp2_with (go_at_call 99;refine(takesM HA.out.step.1 ⟨#[60]⟩ [60] rfl (by decide) HMT.out).mono ?_;rintro e w2 ⟨rfl,hs⟩;simp only[Option.getD_none]at hs;have HS2:=yH hs;clear hs)
          go_roundw
          case rel=>exact⟨10,rfl,by omega,HA.out.step.trans HS2.out,(signM_none HMT.out).symm.trans HA.out.said⟩
          case measure=>decide
      · have ix:=sign_at10
        obtain⟨mt,hmt⟩:∃mt,takes [10] xs=mt:=⟨_,rfl⟩;have HMT:=yH hmt;clear hmt
        cases mt with
        |some r=>
          go_wp2_with (go_at_call 99;refine(takesM HA.out.step.1 ⟨#[10]⟩ [10] rfl (by decide) HMT.out).mono ?_;rintro e w2 ⟨rfl,hs⟩;simp only[Option.getD_some]at hs;have HS2:=yH hs;clear hs)
          go_ret;rw[show M=some ([10],r)from HA.out.said.symm.trans (signM_some HMT.out)];exact⟨rfl,HA.out.step.trans HS2.out⟩
        |none=>
          go_wp2_with (go_at_call 99;refine(takesM HA.out.step.1 ⟨#[10]⟩ [10] rfl (by decide) HMT.out).mono ?_;rintro e w2 ⟨rfl,hs⟩;simp only[Option.getD_none]at hs;have HS2:=yH hs;clear hs)
          go_roundw
          case rel=>exact⟨11,rfl,by omega,HA.out.step.trans HS2.out,(signM_none HMT.out).symm.trans HA.out.said⟩
          case measure=>decide
    · obtain rfl:k=11:=by omega
      clear hk hge;go_wp2_with fail;go_ret;have:=HA.out.said;rw[←this];exact⟨rfl,HA.out.step⟩
theorem four_cells {w:World} {k:Nat} {a b c d:Value} {t:TypeId} {fr:Nat×Nat} (h:w.heap[k]? =some (.cells #[a,b,c,d] t fr)):
    w.cell? ⟨k,0,none⟩=some a∧w.cell? ⟨k,1,none⟩=some b∧w.cell? ⟨k,2,none⟩=some c∧w.cell? ⟨k,3,none⟩=some d:=by
  refine⟨?_,?_,?_,?_⟩<;>simp[World.cell?,h]
theorem four_free {w:World} {k:Nat} {a b c d:Value} {t:TypeId} (h:w.heap[k]? =some (.cells #[a,b,c,d] t (0,0))) (j:Nat):w.frozen? ⟨k,j,none⟩=false:=frozen_plain h j
theorem four_put {w:World} {k:Nat} {x0 x1 x2 x3:Value} {t:TypeId} (h:w.heap[k]? =some (.cells #[x0,x1,x2,x3] t (0,0))) (a b c d:Value):
    ((((w.setCell ⟨k,0,none⟩ a).setCell ⟨k,1,none⟩ b).setCell ⟨k,2,none⟩ c).setCell ⟨k,3,none⟩ d).heap[k]? =some (.cells #[a,b,c,d] t (0,0)):=
  heap_setCell_same _ k 3 _ t d (heap_setCell_same _ k 2 _ t c (heap_setCell_same _ k 1 _ t b (heap_setCell_same w k 0 _ t a h)))
theorem token_info:(Tryz.prog.info? 72).map (·.size)=some 4:=by kernel_rfl
theorem load_token {w:World} {k:Nat} {a b c d:Value} {t:TypeId} {fr:Nat×Nat} (h:w.heap[k]? =some (.cells #[a,b,c,d] t fr)):(loadVar 72 ⟨k,0,none⟩).run Tryz.prog w= .ok (.agg #[a,b,c,d]) w:=
  run_loadVar_row (P:=Tryz.prog) w k t 72 _ fr _ h Tryz.underlying72 rfl token_info
theorem ret_token {fn:Func} {p u:Tmp} (hf:fn.results= #[.cell p 72,.tmp u]) {tmps:Array Value} {k:Nat} {a b c d x:Value} {w:World} {t:TypeId} {fr:Nat×Nat} (h:w.heap[k]? =some (.cells #[a,b,c,d] t fr)) (h2:tmps.getD p undef= .pointer (some ⟨k,0,none⟩)) (h3:tmps.getD u undef=x):
    (results fn tmps).run Tryz.prog w= .ok (.tuple #[.agg #[a,b,c,d],x]) w:=by
  rw[results_cell_tmp hf,h2,h3];simp[asAddr,Result.andThen,load_token h]
def tokV (t:Tk) (u:Value):Value:= .agg #[.int .i64 t.kind,txt t.text,u,.int .i64 (t.at_:Int)]
def ZT:Obj:= .cells #[.int .i64 0,.string ⟨#[]⟩,.slice none 0 0,.int .i64 0] 72
def TokEnd (w w':World) (e:Ending) (X G sz:Nat) (m:Res Tk):Prop:=
  match m with
  | .ok (t,xs)=> ∃u,e= .returned (.tuple #[tokV t u,.int .i64 0])∧WordN w' w.heap.size u t.word∧Rd w' X G sz xs∧Kept (fun k=>k=X) w w'
  | .error c=>(c=2∨c=3)∧e= .returned (.tuple #[tokV ⟨0,[],[],0⟩ zeroV,.int .i64 (c:Int)])∧Kept (fun k=>k=X) w w'
def tokM (n:Nat) (xs:List Nat):Res Tk:=if xs= []then .ok (⟨3,[],[],n⟩,[])else tokenM n xs
theorem signM_ne:∀(l:List (List Nat)) (xs p r:List Nat),(∀q∈l,q≠ [])→signM l xs=some (p,r)→p≠ []
  | [],_,_,_,_,h=>by cases h
  |q::l,xs,p,r,hl,h=>by
    rw[signM]at h
    cases ht:takes q xs with
    |some ys=>rw[ht]at h;cases h;exact hl q (by simp)
    |none=>rw[ht]at h;exact signM_ne l xs p r (fun q' hq=>hl q' (List.mem_cons_of_mem _ hq)) h
def wordTok (n:Nat) (m:Res (List Pt)):Res Tk:=
  match m with
  | .error e=> .error e
  | .ok (ps,r)=> .ok (⟨1,[],ps,n⟩,r)
theorem tok_sign {n:Nat} {xs p r:List Nat} (hx:xs≠ []) (h:signM signs xs=some (p,r)):tokM n xs= .ok (⟨2,enc p,[],n⟩,r):=by
  unfold tokM tokenM;rw[if_neg hx,h]
theorem tok_amp {n:Nat} {xs:List Nat} (hx:xs≠ []) (h:signM signs xs=none) (ha:next xs=38):tokM n xs= .error 2:=by
  unfold tokM tokenM;rw[if_neg hx,h];simp only;rw[if_pos ha]
theorem tok_word {n:Nat} {xs:List Nat} (hx:xs≠ []) (h:signM signs xs=none) (ha:next xs≠38):tokM n xs=wordTok n (partsM 20 xs):=by
  unfold tokM tokenM wordTok;rw[if_neg hx,h];simp only;rw[if_neg ha]
  cases partsM 20 xs<;>rfl
set_option maxHeartbeats 1000000 in
set_option maxRecDepth 100000 in
theorem token_any {w:World} {X G sz:Nat} {xs:List Nat} (h:Rd w X G sz xs) (hS:Signs w):
    Calls Tryz.prog 43 #[.pointer (some ⟨X,0,none⟩)] w fun e w'=>TokEnd w w' e X G sz (tokM (sz-(enc xs).length) xs):=by
  have hb1:Below w.heap.size w (w.alloc ZT):=(Below.refl _ w).alloc (Nat.le_refl _) _;have hr1:=h.below hb1;have hs1:Signs (w.alloc ZT):=hS.kept (D:=fun _=>False) (Kept.of_below hb1) (fun h=>h);have HX:=yH h.lt;have HN:=yH (next_any hr1);have HSG:=yH (sign_any hr1 hs1);obtain⟨n,hn⟩:∃n,sz-(enc xs).length=n:=⟨_,rfl⟩;have HAT:=yH (show _ from by have:=at_any hr1;rw[hn]at this;exact this);rw[hn];obtain⟨m,hm⟩:∃m,signM signs xs=m:=⟨_,rfl⟩;rw[hm]at HSG;have HM:=yH hm;have HR:=yH hr1;have HR0:=yH h
  have base:∀w',Kept (fun k=>k=X) (w.alloc ZT) w'→w'.heap[w.heap.size]? =some ZT∧Kept (fun k=>k=X) w w':=fun w' k=>
    ⟨k.heap (heap_alloc_new w ZT) (fun e=>by have:=h.lt.1;omega),(Kept.of_below hb1).on k⟩
  have HBASE:=yH base;clear h hS hb1 hr1 hs1 hn hm base
  cases xs with
  |nil=>
    go_enter Tryz.func43,Tryz.ntmps43
    go_wp2_with (first
      |(go_at_call 42;refine HAT.out.mono ?_;rintro e w1 ⟨rfl,rfl⟩;simp only[ZT])
      |(go_at_call 72;refine HN.out.mono ?_;rintro e w1 ⟨rfl,rfl⟩;rw[next_nil];simp only[ZT]))
    (try simp only[Exit.inBlock,Exit.then])
    have hx:=HX.out;refine bodyPost_ret (ret_token rfl (heap_alloc_new w _) rfl rfl) rfl ?_;have hbz:Below w.heap.size w (w.alloc (.cells #[.int .i64 3,.string ⟨#[]⟩,.slice none 0 0,.int .i64 (n:Int)] 72)):=(Below.refl _ w).alloc (Nat.le_refl _) _;have hr:=HR0.out.below hbz;exact⟨zeroV,rfl,WordN.nil _ _,hr,Kept.of_below hbz⟩
  |cons c r=>
    have hgc:=HR.out.good c (by simp)
    have hx0:((c:Int)==0)=false:=by
      have:=hgc.1;have:¬(c:Int)=0:=(by omega)
      simpa using this
    clear hgc
    cases m with
    |some pr=>
      obtain⟨p,r'⟩:=pr;have HNE:=yH (signM_ne signs _ _ _ (by decide) HM.out);obtain⟨T,hT⟩:∃T:ByteArray,txt (enc p)= .string T:=⟨_,rfl⟩
      have hTe:T.toList.isEmpty=false:=by
        have e:(⟨(enc p).toArray⟩:ByteArray)=T:=(by simpa [txt]using hT);rw[←e,Lib.toList_data];have h1:=(enc_length p).1;have h2:=List.length_pos_iff.2 HNE.out
        cases he:enc p with
        |nil=>
          rw[he]at h1;have h3:p.length≤0:=h1;omega
        |cons a b=>rfl
      have HT:=yH hT;clear hT;go_enter Tryz.func43,Tryz.ntmps43
      go_wp2_with (first
        |(go_at_call 42;refine HAT.out.mono ?_;rintro e w1 ⟨rfl,rfl⟩;simp only[ZT])
        |(go_at_call 72;refine HN.out.mono ?_;rintro e w1 ⟨rfl,rfl⟩;rw[next_cons];simp only[ZT]))
      refine HSG.out.mono ?_;rintro e w1 ⟨rfl,hs1⟩;rw[HT.out];obtain⟨v1,kw⟩:=HBASE.out w1 hs1.2;obtain⟨x0,x1,x2,x3⟩:=four_cells v1;have g0:=four_free v1 0;have g1:=four_free v1 1;have g2:=four_free v1 2;have g3:=four_free v1 3;have HV:=yH (And.intro v1 (And.intro kw hs1));clear v1 kw hs1;go_wp2_with fail
      (try simp only[Exit.inBlock,Exit.then])
      obtain⟨v1,kw,hs1⟩:=HV.out;have hx:=HX.out;refine bodyPost_ret (ret_token rfl (four_put v1 _ _ _ _) rfl rfl) rfl ?_;rw[tok_sign (by simp) HM.out];have hk:=four_kept (D:=fun k=>k=w.heap.size) (Kept.refl _ w1) (.inl rfl) (.int .i64 2) (.string T) (.slice none 0 0) (.int .i64 (n:Int));exact⟨zeroV,by rw[tokV,HT.out];rfl,WordN.nil _ _,hs1.1.kept hk (by omega) (by omega),kw.trans hk (fun i e=> .inr (by omega))⟩
    |none=>
      by_cases hc:c=38
      · subst hc
        go_enter Tryz.func43,Tryz.ntmps43
        go_wp2_with (first
          |(go_at_call 42;refine HAT.out.mono ?_;rintro e w1 ⟨rfl,rfl⟩;simp only[ZT])
          |(go_at_call 72;refine HN.out.mono ?_;rintro e w1 ⟨rfl,rfl⟩;rw[next_cons];simp only[ZT]))
        refine HSG.out.mono ?_;rintro e w1 ⟨rfl,hs1⟩;rw[show txt []= .string ⟨#[]⟩from rfl];obtain⟨v1,kw⟩:=HBASE.out w1 hs1.2;obtain⟨x0,x1,x2,x3⟩:=four_cells v1;have g0:=four_free v1 0;have g1:=four_free v1 1;have g2:=four_free v1 2;have g3:=four_free v1 3;have HV:=yH (And.intro v1 (And.intro kw hs1));clear v1 kw hs1
        go_wp2_with (go_at_call 72;refine(next_any HV.out.2.2.1).mono ?_;rintro e w2 ⟨rfl,rfl⟩;rw[next_cons])
        (try simp only[Exit.inBlock,Exit.then])
        obtain⟨v1,kw,hs1⟩:=HV.out;have hx:=HX.out;refine bodyPost_ret (ret_token rfl (four_put v1 _ _ _ _) rfl rfl) rfl ?_;rw[tok_amp (by simp) HM.out rfl];exact⟨.inl rfl,rfl,kw.trans (four_kept (D:=fun k=>w.heap.size≤k) (Kept.refl _ _) (.inl (Nat.le_refl _)) _ _ _ _) (fun _ h=> .inr h)⟩
      · have hx1:((c:Int)==38)=false:=by
          have:¬(c:Int)=38:=by omega
          simpa using this
        obtain⟨mp,hmp⟩:∃mp,partsM 20 (c::r)=mp:=⟨_,rfl⟩;have HMP:=yH hmp;have HC:=yH hc;clear hmp hc
        rcases mp with cc|⟨ps,r'⟩
        all_goals
          go_enter Tryz.func43,Tryz.ntmps43
          go_wp2_with (first
            |(go_at_call 42;refine HAT.out.mono ?_;rintro e w1 ⟨rfl,rfl⟩;simp only[ZT])
            |(go_at_call 72;refine HN.out.mono ?_;rintro e w1 ⟨rfl,rfl⟩;rw[next_cons];simp only[ZT]))
          refine HSG.out.mono ?_;rintro e w1 ⟨rfl,hs1⟩;rw[show txt []= .string ⟨#[]⟩from rfl];obtain⟨v1,kw⟩:=HBASE.out w1 hs1.2;have HV:=yH (And.intro v1 (And.intro kw hs1));clear v1 kw hs1
          go_wp2_with (go_at_call 72;refine(next_any HV.out.2.2.1).mono ?_;rintro e w2 ⟨rfl,rfl⟩;rw[next_cons])
          have hp:=parts_all HV.out.2.2.1;rw[HMP.out]at hp;refine hp.mono ?_;clear hp
        · rintro e w3 ⟨hcc,rfl,hk3⟩
          rw[show zeroV= .slice none 0 0 from rfl];have hx:=HX.out;have v3:=hk3.heap HV.out.1 (fun e=>by omega);obtain⟨x0,x1,x2,x3⟩:=four_cells v3;have g0:=four_free v3 0;have g1:=four_free v3 1;have g2:=four_free v3 2;have g3:=four_free v3 3;have H3:=yH (And.intro v3 (And.intro hcc hk3))
          have hc0:(((cc:Nat):Int) !=0)=true:=by rcases hcc with rfl|rfl<;>rfl
          clear v3 hcc hk3 hx;go_wp2_with fail
          (try simp only[Exit.inBlock,Exit.then])
          refine bodyPost_ret (ret_token rfl (four_put H3.out.1 _ _ _ _) rfl rfl) rfl ?_;rw[tok_word (by simp) HM.out HC.out,HMP.out];exact⟨H3.out.2.1,rfl,(HV.out.2.1.on H3.out.2.2).trans (four_kept (D:=fun k=>w.heap.size≤k) (Kept.refl _ _) (.inl (Nat.le_refl _)) _ _ _ _) (fun _ h=> .inr h)⟩
        · rintro e w3 ⟨v,rfl,hwn,hr3,hk3⟩
          obtain⟨ad,cp,rfl⟩:=hwn.shape;obtain⟨np,hnp⟩:∃np,ps.length=np:=⟨_,rfl⟩;rw[hnp]at hwn ⊢;have hx:=HX.out;have v3:=hk3.heap HV.out.1 (fun e=>by omega);obtain⟨x0,x1,x2,x3⟩:=four_cells v3;have g0:=four_free v3 0;have g1:=four_free v3 1;have g2:=four_free v3 2;have g3:=four_free v3 3;have hlt:w.heap.size<w1.heap.size:=(gS.1 HV.out.1).1;have H3:=yH (And.intro v3 (And.intro hwn (And.intro hr3 (And.intro hk3 hlt))));clear v3 hwn hr3 hk3 hx hlt hnp;go_wp2_with fail
          (try simp only[Exit.inBlock,Exit.then])
          obtain⟨v3,hwn,hr3,hk3,hlt⟩:=H3.out;have hx:=HX.out;refine bodyPost_ret (ret_token rfl (four_put v3 _ _ _ _) rfl rfl) rfl ?_;rw[tok_word (by simp) HM.out HC.out,HMP.out];have hk:=four_kept (D:=fun k=>k=w.heap.size) (Kept.refl _ w3) (.inl rfl) (.int .i64 1) (.string ⟨#[]⟩) (.slice ad np cp) (.int .i64 (n:Int));exact⟨.slice ad np cp,rfl,(hwn.kept hk (fun k hk e=>by omega)).base (by omega),hr3.kept hk (by omega) (by omega),(HV.out.2.1.on hk3).trans hk (fun i e=> .inr (by omega))⟩
theorem infoLetter:(Tryz.prog.info? 121).map (fun i=>(i.zero,i.size,i.bytes))=some (some (.agg #[.int .i32 0,.int .i64 0]),2,16):=by kernel_rfl
theorem ownsRow_iterAt {w:World} {B K pos pos' e size n:Nat} {s:ByteArray} {v:Value} {xs:List Value} (h:w.ownsRow B e size v n xs) (hk:w.heap[K]? =some (.stringIter s pos)):(w.iterAt K s pos').ownsRow B e size v n xs:=by
  refine⟨h.1,?_⟩
  rcases h.2 with hn|⟨g,cap,cur,hv,hbg,hg,r⟩
  · exact .inl hn
  · have hne:g≠K:=by intro e;rw[e,hk]at hg;cases hg
    exact .inr ⟨g,cap,cur,hv,hbg,(Lib.iterAt_other w K g s pos' hne).trans hg,r⟩
theorem ownsRow_ne_iter {w:World} {B K pos e size n:Nat} {s:ByteArray} {v:Value} {xs:List Value} (h:w.ownsRow B e size v n xs) (hk:w.heap[K]? =some (.stringIter s pos)):v.ownBlock≠some K:=by
  intro e
  rcases h.2 with ⟨hn, -⟩|⟨g,cap,cur,hv, -,hg, -⟩
  · rw[hn]at e;simp[Value.ownBlock]at e
  · rw[hv]at e
    simp only[Value.ownBlock,Option.some.injEq]at e;rw[e,hk]at hg;cases hg
structure RelB (s:ByteArray) (w:World) (K:Nat) (v:Value) (wr:World) (pos k:Nat) (done:List Value):Prop where
  iter:wr.heap[K]? =some (.stringIter s pos)
  low:w.heap.size≤K
  below:Below w.heap.size w wr
  row:wr.ownsRow w.heap.size 121 2 v k done
  said:done++lcells s.size (rest s pos)=lcells s.size (letters s)
  num:k+(rest s pos).length=(letters s).length
  text:badFrom s pos=none
  pos_:pos≤s.size
theorem relB_step {s:ByteArray} {w:World} {K pos d r k:Nat} {v v':Value} {wr w':World} {done:List Value} {o:Obj} (h:RelB s w K v wr pos k done) (hp:pos<s.size) (hd:Utf8.decode s pos=(r,d))
    (hown:w'.ownsRow w.heap.size 121 2 v' (k+1) (done++ [.int .i32 (r:Int),.int .i64 (pos:Int)])) (hg:((wr.iterAt K s (pos+d)).alloc o).grownBy w' v.ownBlock):
    RelB s w K v' w' (pos+d) (k+1) (done++ [.int .i32 (r:Int),.int .i64 (pos:Int)]):=by
  have hlt:K<wr.heap.size:=(gS.1 h.iter).1;have hsz:=Lib.iterAt_size wr K s (pos+d)
  have hi:w'.heap[K]? =some (.stringIter s (pos+d)):=by
    rw[hg.block K (by simp;omega) (fun e=>ownsRow_ne_iter h.row h.iter e.symm),Below.heap_alloc _ _ _ (by omega)];exact Lib.iterAt_heap wr K s pos (pos+d) h.iter
  have hbad:=h.text;rw[badFrom_step s pos hp]at hbad
  have hb0:bad s pos=false:=by
    cases hbd:bad s pos with
    |true=>rw[hbd]at hbad;simp at hbad
    |false=>rfl
  rw[hb0,hd]at hbad;have hw:=width_le s pos hp;rw[hd]at hw;have ht:=rest_text s s.size pos (by omega) (by omega) h.text;have hst:=rest_step s pos hp;rw[hd]at hst;simp only at hst hw;have hs:=h.said;have hnum:=h.num;refine⟨hi,h.low,?_,hown,?_,?_,by simpa using hbad,hw⟩
  · have b1:=Lib.below_iterAt h.below h.low s (pos+d)
    have b2:=b1.alloc (by have:=h.below.size;omega) o;refine b2.grown hg (by have:=h.below.size;simp;omega) ?_;intro j e;exact(World.ownsRow.lt h.row j e).1
  · rw[←hs]
    have h1:=ht.1;rw[hst]at h1 ⊢;rw[List.append_assoc]
    congr 1
    simp only[lcells,List.cons_append,List.nil_append,List.cons.injEq,true_and,and_true];rw[h1]
    congr 2
    omega
  · rw[hst,List.length_cons]at hnum
    omega
set_option maxHeartbeats 1000000 in
set_option maxRecDepth 100000 in
theorem read_any (s:ByteArray) (w:World) (hs:s.size≤2000) (ht:isText s=true):
    Calls Tryz.prog 40 #[.string s] w fun e w'=> ∃X G,e= .returned (.pointer (some ⟨X,0,none⟩))∧Rd w' X G s.size (letters s)∧Below w.heap.size w w'∧w.heap.size≤X∧w.heap.size≤G:=by
  have hl:=letters_length s;obtain⟨N,hN⟩:∃N,(letters s).length=N:=⟨_,rfl⟩;have hc:=count_any s w (by omega);rw[hN]at hc hl;have HL:=yH (show N≤2000 by omega);have hNi:(N:Int)≤2000:=(by omega);have hN0:(0:Int)≤(N:Int):=(by omega);have HN:=yH hN;have HG:=yH (text_good ht).2;have HTX:=yH (text_none ht);have HSZ:=yH hs;have hsi:(s.size:Int)≤2000:=(by omega);clear hl hN hs ht;obtain⟨i0,hi,hz0,hz1,hz2⟩:=info_parts infoLetter;have B2:=yH (show i0.bytes*(N+1)≤281474976710656 by rw[hz2];have:=HL.out;omega);have B3:=yH (show N+1≤maxLen by have:=HL.out;unfold maxLen;omega);go_enter Tryz.func40,Tryz.ntmps40;go_wp2_with fail;refine hc.mono ?_;rintro e w1 ⟨rfl,hb1⟩;have H1:=yH hb1;clear hb1 hc
  go_wp2_with (at_make;refine wpList_make_own _ rfl _ _ 118 rfl w.heap.size 121 i0 (.agg #[.int .i32 0,.int .i64 0]) 2 Tryz.underlying118 hi hz0 hz1 .i64 .i64 _ (N+1) rfl rfl rfl B2.out B3.out H1.out.size ?_;intro w2 hown2 hg2)
  have H2:=yH (H1.out.grown hg2 H1.out.size (fun k e=>by cases e));have O2:=yH hown2;clear hown2 hg2;have HK:=yH (show w.heap.size≤w2.heap.size from H2.out.size)
  go_loopw [3] (fun v wr=> ∃pos k done,RelB s w w2.heap.size v wr pos k done) (fun _ wr=>s.size-wr.iterPos w2.heap.size)
  case atStart=>
    exact⟨0,0,[],World.iter_heap w2 s 0,HK.out,H2.out.alloc HK.out _,World.ownsRow.kept (row:=none) O2.out ⟨rfl,rfl,rfl,(below_iter w2 s 0).size,fun k hk _=>(below_iter w2 s 0).block k hk⟩ (.inr (by simp[Value.ownBlock])),rfl,by rw[rest_zero,Nat.zero_add],by rw[badFrom_zero];exact HTX.out,Nat.zero_le _⟩
  case round=>
    obtain⟨pos,k,done,hR⟩:=hrel;obtain⟨K,hKe⟩:∃K,w2.heap.size=K:=⟨_,rfl⟩;rw[hKe]at hR ⊢;have HKK:=yH (show w.heap.size≤K by rw[←hKe];exact HK.out);clear hKe;have HR:=yH hR;have hit:=hR.iter;have hnum:k≤2000:=(by have:=hR.num;have:=HN.out;have:=HL.out;omega);clear hR
    by_cases hp:pos<s.size
    · obtain⟨r,d,hd⟩:∃r d,Utf8.decode s pos=(r,d):=⟨_,_,rfl⟩
      have hnx:∀ty,(Instr.next (.pointer (some ⟨K,0,none⟩)) true ty).run Tryz.prog wr= .ok (.tuple #[.bool true,.int .i64 pos,.int .i32 (r:Int)]) (wr.iterAt K s (pos+d)):=fun ty=>(by rw[Lib.run_next_any_at wr K s pos ty hit hp,hd]);have hwd:=width_pos s pos hp;rw[hd]at hwd;have HW:=yH (And.intro hp (And.intro hwd hd));have C3:=yH (show k+1≤maxLen by unfold maxLen;omega);have C4:=yH (show(k+1)*16≤140737488355328 by omega);have C5:=yH (show w.heap.size≤((wr.iterAt K s (pos+d)).alloc (.cells #[.int .i32 (r:Int),.int .i64 (pos:Int)] 121)).heap.size by simp only[World.size_alloc,Lib.iterAt_size];have:=HR.out.below.size;omega);have CO:=yH (World.ownsRow.alloc (ownsRow_iterAt (pos':=pos+d) HR.out.row hit) (.cells #[.int .i32 (r:Int),.int .i64 (pos:Int)] 121));have C1:=yH (fun (j:Nat) (u:Value) (hj: [Value.int .i32 (r:Int),.int .i64 (pos:Int)][j]? =some u)=>(show((wr.iterAt K s (pos+d)).alloc (.cells #[.int .i32 (r:Int),.int .i64 (pos:Int)] 121)).cell? ((⟨(wr.iterAt K s (pos+d)).heap.size,0,none⟩:Addr).add j)=some u from World.news_of_block (heap_alloc_new (wr.iterAt K s (pos+d)) (.cells #[.int .i32 (r:Int),.int .i64 (pos:Int)] 121)) j u hj));clear hd hwd hp hit
      go_wp2_with (at_builtin;refine wpList_append_own _ rfl _ _ 118 rfl w.heap.size 121 i0 (.agg #[.int .i32 0,.int .i64 0]) 2 16 Tryz.underlying118 hi hz0 hz1 hz2 rfl (by decide) _ _ _ rfl CO.out ⟨(wr.iterAt K s (pos+d)).heap.size,0,none⟩ 1 1 [.int .i32 (r:Int),.int .i64 (pos:Int)] rfl rfl C1.out (by intro u hu;simp at hu;rcases hu with rfl|rfl<;>rfl) C3.out C4.out C5.out ?_;intro v' w3 hown3 hg3 hn3)
      have R:=relB_step HR.out HW.out.1 HW.out.2.2 hown3 hg3;refine⟨⟨_,_,_,R⟩,?_⟩;have e1:w3.iterPos K=pos+d:=(by unfold World.iterPos;rw[R.iter]);have e2:wr.iterPos K=pos:=(by unfold World.iterPos;rw[HR.out.iter]);rw[e1,e2];have:=HW.out;omega
    · have hnx:∀ty,(Instr.next (.pointer (some ⟨K,0,none⟩)) true ty).run Tryz.prog wr=_:=fun ty=>Lib.run_next_end_at wr K s pos ty hit hp
      have hsd:=HR.out.said;have hnm:=HR.out.num;rw[rest_end s pos hp]at hsd hnm;have HSD:=yH (And.intro hsd hnm);have C3:=yH (show k+1≤maxLen by unfold maxLen;omega);have C4:=yH (show(k+1)*16≤140737488355328 by omega);have C5:=yH (show w.heap.size≤(wr.alloc (.cells #[.int .i32 0,.int .i64 (s.size:Int)] 121)).heap.size by simp only[World.size_alloc];have:=HR.out.below.size;omega);have CO:=yH (World.ownsRow.alloc HR.out.row (.cells #[.int .i32 0,.int .i64 (s.size:Int)] 121));have C1:=yH (fun (j:Nat) (u:Value) (hj: [Value.int .i32 0,.int .i64 (s.size:Int)][j]? =some u)=>(show(wr.alloc (.cells #[.int .i32 0,.int .i64 (s.size:Int)] 121)).cell? ((⟨wr.heap.size,0,none⟩:Addr).add j)=some u from World.news_of_block (heap_alloc_new wr (.cells #[.int .i32 0,.int .i64 (s.size:Int)] 121)) j u hj));clear hsd hnm hp hit
      go_wp2_with (at_builtin;refine wpList_append_lies _ rfl _ _ 118 rfl w.heap.size 121 i0 (.agg #[.int .i32 0,.int .i64 0]) 2 16 Tryz.underlying118 hi hz0 hz1 hz2 rfl (by decide) _ _ _ rfl CO.out ⟨wr.heap.size,0,none⟩ 1 1 [.int .i32 0,.int .i64 (s.size:Int)] rfl rfl C1.out (by intro u hu;simp at hu;rcases hu with rfl|rfl<;>rfl) (by decide) C3.out C4.out C5.out (wr.heap.size+1) (by simp) ?_;intro g cap w3 hown3 hg3 hat3 hlt3;have H3:=yH (And.intro hown3 (And.intro hg3 (And.intro hat3 hlt3)));clear hown3 hg3 hat3 hlt3)
      go_ret;obtain⟨hown,hg,hat,hlt⟩:=H3.out;obtain⟨hsd,hnm⟩:=HSD.out;have hk:k=(letters s).length:=(by simpa using hnm);have hown2:w3.ownsRow w.heap.size 121 2 (.slice (some ⟨g,0,none⟩) (k+1) cap) (k+1) (lcells s.size (letters s)):=(by rw[←hsd];exact hown);have hlen:=hown2.1
      have hcap:k+1≤cap:=by
        rcases hown2.2 with ⟨hv,_⟩|⟨g',cap',cur,hv,_,_,hc,_⟩
        · cases hv
        · cases hv;exact hc
      have hgw:=World.ownsRow.lt hown2 g rfl;have hb3:Below w.heap.size w w3:=(HR.out.below.alloc HR.out.below.size _).grown hg C5.out (fun j e=>(World.ownsRow.lt CO.out j e).1);refine⟨w3.heap.size,g,rfl,⟨0,cap,?_⟩,hb3.alloc hb3.size _,hb3.size,hgw.1⟩;refine { head:=by rw[←hk];exact heap_alloc_new w3 _,cap:=by rw[←hk];exact hcap,row:=fun j v hj=> ?_,ne:=by omega,good:=HG.out,few:=by rw[HN.out];exact HL.out };have hj2:=(List.getElem?_eq_some_iff.1 hj).1;rw[World.cell?_alloc_lt _ _ _ hgw.2,Nat.zero_add,hown2.cellAt j (by omega)];exact hj
theorem skip_suf (xs:List Nat):Suf xs (skipM xs):=by
  unfold skipM
  split
  · exact(Suf.left _ _).trans (Suf.left _ _)
  · exact Suf.left _ _
theorem skip_next (xs:List Nat):skipM xs= []∨(next (skipM xs)≠32∧next (skipM xs)≠9):=by
  unfold skipM
  split
  · rcases left_head (fun r=>r==10) (left (fun r=>r !=32&&r !=9) xs)with h|h
    · exact .inl h
    · right
      have e:next (left (fun r=>r==10) (left (fun r=>r !=32&&r !=9) xs))=10:=(by simpa using h);rw[e];decide
  · rcases left_head (fun r=>r !=32&&r !=9) xs with h|h
    · exact .inl h
    · right;simpa using h
structure LAt (w wr:World) (X G sz:Nat) (M:Except (Nat×Nat) (List Tk)) (f:Nat) (ys:List Nat) (v:Value) (us:List Value) (F:Nat→Prop) (ts:List Tk):Prop where
  rd:Rd wr X G sz ys
  signs:Signs wr
  row:TokO wr w.heap.size X v us F ts
  apart:v.ownBlock≠some G
  below:Below w.heap.size w wr
  said:tokensL sz f ys ts=M
  fuel:ys.length<f
  few:ts.length+ys.length≤4000
theorem block_first {w5 w7:World} {t1 t2 t3 t4:Value} {o2:Obj} {T:TypeId} {ob:Option Nat} (hg:((w5.alloc (.cells #[t1,t2,t3,t4] T)).alloc o2).grownBy w7 ob) (hne:ob≠some w5.heap.size):w7.cell? ⟨w5.heap.size,0,none⟩=some t1:=by
  have hb:w7.heap[w5.heap.size]? =some (.cells #[t1,t2,t3,t4] T):=
    (hg.block w5.heap.size (by simp;omega) (fun e=>hne e.symm)).trans ((Below.heap_alloc _ _ _ (by simp)).trans (heap_alloc_new w5 _))
  exact World.news_of_block hb 0 t1 rfl
theorem tok_step {w w3 w5 w7:World} {X G sz k g cap:Nat} {v u v':Value} {us:List Value} {F:Nat→Prop} {ts:List Tk} {t:Tk} {T:ByteArray} {r zs:List Nat} {o1 o2:Obj}
    (hw:0<w.heap.size) (hX:w.heap.size≤X) (hrow:TokO w3 w.heap.size X v us F ts) (hap:v.ownBlock≠some G) (hb:Below w.heap.size w w3) (hsg:Signs w3) (hr3:Rd w3 X G sz zs)
    (hk:ts.length=k) (hT:txt t.text= .string T) (hwn:WordN w5 w3.heap.size u t.word) (hr5:Rd w5 X G sz r) (hk5:Kept (fun k=>k=X) w3 w5)
    (hown:w7.ownsRow w.heap.size 72 4 (.slice (some ⟨g,0,none⟩) (k+1) cap) (k+1) (tokCells ts us++ [.int .i64 t.kind,.string T,u,.int .i64 (t.at_:Int)])) (hgr:((w5.alloc o1).alloc o2).grownBy w7 v'.ownBlock) (hat:v'.ownBlock=some g∨g=w5.heap.size+2) (hv:v'.ownBlock=v.ownBlock):
    Below w.heap.size w w7∧Rd w7 X G sz r∧Signs w7∧(Value.slice (some ⟨g,0,none⟩) (k+1) cap).ownBlock≠some G∧∃us' F',TokO w7 w.heap.size X (.slice (some ⟨g,0,none⟩) (k+1) cap) us' F' (ts++ [t]):=by
  subst hk;rw[hv]at hgr hat;have hb5:Below w.heap.size w w5:=below_kept hb hk5 (fun i e=>by omega) hb.size;have s35:=hk5.size;have hlt3:∀j,v.ownBlock=some j→w.heap.size≤j∧j<w3.heap.size:=fun j e=>World.ownsRow.lt hrow.own j e;have hk6:Kept (fun _=>False) w5 (w5.alloc o1):=Kept.of_below ((Below.refl _ w5).alloc (Nat.le_refl _) _);have hk62:Kept (fun _=>False) w5 ((w5.alloc o1).alloc o2):=Kept.of_below (((Below.refl _ w5).alloc (Nat.le_refl _) _).alloc (by simp) _);have hrow6:=(hrow.kept hk5 (fun i _ _ hne e=>hne e)).kept hk6 (fun _ _ _ _ h=>h);have hsz6:(w5.alloc o1).heap.size=w5.heap.size+1:=(by simp);have hk57:Kept (fun i=>v.ownBlock=some i) w5 w7:=⟨hgr.os.trans hk62.os,hgr.tape.trans hk62.tape,hgr.output.trans hk62.output,Nat.le_trans hk62.size hgr.size,fun i hi hn=>(hgr.block i (by simp;omega) (fun e=>hn e.symm)).trans (hk62.block i hi (fun h=>h))⟩;refine⟨below_kept hb5 hk57 (fun i hi=>(hlt3 i hi).1) hb5.size,hr5.kept hk57 hrow.ne hap,(hsg.kept hk5 (fun e=>by omega)).kept hk57 (fun e=>by have:=(hlt3 _ e).1;omega),?_,?_⟩
  · simp only[Value.ownBlock,ne_eq,Option.some.injEq]
    intro e
    rcases hat with h|h
    · exact hap (by rw[h,e])
    · have:=hr5.lt.2;omega
  · obtain⟨F',h⟩:=TokO.add hrow6 (by have:=hr5.lt.1;omega) (hwn.kept hk6 (fun _ _ h=>h)) (by have:=hb.size;omega) hr3.lt.1 (fun j e=>(hlt3 j e).2) (by rw[tcells,hT];exact hown) hgr (by rw[hsz6];exact hat)
    exact⟨_,F',h⟩
set_option maxHeartbeats 1000000 in
set_option maxRecDepth 100000 in
theorem tokens_in (s:ByteArray) (w:World) (hs:s.size≤2000) (ht:isText s=true) (hS:Signs w):
    Calls Tryz.prog 18 #[.string s] w fun e w'=>TksEnd w w' e s.size (tokensL s.size ((letters s).length+1) (letters s) []):=by
  have HV:=yH (show _ from by have:=valid_any s w;rw[ht]at this;exact this);have hsi:¬(2000:Int)<(s.size:Int):=(by omega);have HS:=yH hs;have HT:=yH ht;have HSG:=yH hS;have hw0:0<w.heap.size:=World.block_lt_of_cell? w _ (hS 0 _ rfl);have HW0:=yH hw0;obtain⟨M,hM⟩:∃M,tokensL s.size ((letters s).length+1) (letters s) []=M:=⟨_,rfl⟩;rw[hM];have HM:=yH hM;obtain⟨i0,hi,hz0,hz1,hz2⟩:=info_parts infoTok;obtain⟨P,hP⟩:∃P:Int,(place s:Int)=P:=⟨_,rfl⟩;rw[hP]at HV;clear hs ht hS hw0 hM hP;go_enter Tryz.func18,Tryz.ntmps18;go_wp2_with fail;refine HV.out.mono ?_;rintro e w1 ⟨rfl,hb1⟩;have H1:=yH hb1;clear hb1;go_wp2_with fail;refine(read_any s w1 HS.out HT.out).mono ?_;rintro e w2 ⟨X,G,rfl,hr2,hb2,hX2,hG2⟩;have HXG:=yH (show w.heap.size≤X∧w.heap.size≤G by have:=H1.out.size;omega);have hB2:Below w.heap.size w w2:=H1.out.trans (hb2.mono H1.out.size)
  have HA0:=yH (show LAt w w2 X G s.size M ((letters s).length+1) (letters s) (.slice none 0 0) [] (fun _=>False) []from
    ⟨hr2,HSG.out.kept (D:=fun _=>False) (Kept.of_below hB2) (fun h=>h),TokO.nil _ _ _,by simp[Value.ownBlock],hB2,HM.out,by omega,by have:=hr2.few;simp;omega⟩)
  clear hr2 hb2 hX2 hG2 hB2;go_wp2_with fail
  go_loopw [2] (fun v wr=> ∃f ys us F ts,LAt w wr X G s.size M f ys v us F ts) (fun _ wr=>lenAt wr X)
  case atStart=>exact⟨_,_,_,_,_,HA0.out⟩
  case round=>
    obtain⟨f,ys,us,F,ts,hA⟩:=hrel;obtain⟨f,rfl⟩:∃g,f=g+1:=⟨f-1,by have:=hA.fuel;omega⟩;obtain⟨a,c,hv⟩:=hA.row.shape;subst hv;have HA:=yH hA;obtain⟨k,hk⟩:∃k,ts.length=k:=⟨_,rfl⟩;have HK:=yH hk;rw[hk];have hki:(k:Int)≤4000:=(by have:=hA.few;omega);have hk0:(0:Int)≤(k:Int):=(by omega);clear hA hk;obtain⟨zs,hzs⟩:∃zs,skipM ys=zs:=⟨_,rfl⟩;have HZ:=yH hzs;obtain⟨n,hn⟩:∃n,s.size-(enc zs).length=n:=⟨_,rfl⟩;have HNN:=yH hn;obtain⟨m,hm⟩:∃m,tokM n zs=m:=⟨_,rfl⟩;have HMM:=yH hm;clear hzs hn hm
    go_wp2_with (first
      |(go_at_call 41;refine(skip_any HA.out.rd).mono ?_;rintro e w3 ⟨rfl,hs3⟩;rw[HZ.out]at hs3;have HS3:=yH hs3;clear hs3)
      |(go_at_call 42;refine(at_any HS3.out.1).mono ?_;rintro e w4 ⟨rfl,rfl⟩;rw[HNN.out]))
    have hsg3:Signs w3:=HA.out.signs.kept HS3.out.2 (fun e=>by have h1:=HXG.out.1;have h2:=HW0.out;omega);have htk:=token_any HS3.out.1 hsg3;rw[HNN.out,HMM.out]at htk;refine htk.mono ?_;have hrow3:=HA.out.row.kept HS3.out.2 (fun i _ _ hne e=>hne e);have hbel3:=below_kept HA.out.below HS3.out.2 (fun i e=>by have:=HXG.out.1;omega) HA.out.below.size;have H3:=yH (And.intro hsg3 (And.intro hrow3 hbel3));clear htk hsg3 hrow3 hbel3
    rcases m with cc|⟨t,r⟩
    · rintro e w5 ⟨hcc,rfl,hk5⟩
      have H5:=yH (And.intro hcc hk5)
      have hc0:(((cc:Nat):Int) !=0)=true:=by rcases hcc with rfl|rfl<;>rfl
      clear hcc hk5;rw[show tokV ⟨0,[],[],0⟩ zeroV= .agg #[.int .i64 0,.string ⟨#[]⟩,.slice none 0 0,.int .i64 0]from rfl];go_wp2_with fail
      go_ret3
      have hz:zs≠ []:=by
        intro hz;have h:=HMM.out;rw[tokM,if_pos hz]at h
        cases h
      have hm:=HA.out.said
      have ht:tokenM (s.size-(enc (skipM ys)).length) (skipM ys)= .error cc:=by
        have h:=HMM.out;rw[tokM,if_neg hz]at h;rw[HZ.out,HNN.out,h]
      rw[tokensL_bad (by rw[HZ.out];exact hz) ht,HZ.out,HNN.out]at hm;rw[←hm];exact⟨H5.out.1,rfl,(below_kept H3.out.2.2 H5.out.2 (fun i e=>by have:=HXG.out.1;omega) H3.out.2.2.size).alloc (by have:=H3.out.2.2.size;have:=H5.out.2.size;omega) _⟩
    · rintro e w5 ⟨u,rfl,hwn,hr5,hk5⟩
      have hkk:k≤4000:=(by omega);obtain⟨T,hT⟩:∃T:ByteArray,txt t.text= .string T:=⟨_,rfl⟩;obtain⟨ad,cp,hu⟩:=hwn.shape;obtain⟨np,hnp⟩:∃np,t.word.length=np:=⟨_,rfl⟩;rw[hnp]at hu;subst hu;rw[show tokV t (.slice ad np cp)= .agg #[.int .i64 t.kind,.string T,.slice ad np cp,.int .i64 (t.at_:Int)] by rw[tokV,hT]];have H5:=yH (And.intro hT (And.intro hwn (And.intro hr5 hk5)));have hrow5:=H3.out.2.1.kept hk5 (fun i _ _ hne e=>hne e);have hown5:=hrow5.own;rw[HK.out]at hown5;have HR5:=yH hrow5;have HO:=yH (show ∀o1 o2,((w5.alloc o1).alloc o2).ownsRow w.heap.size 72 4 (.slice a k c) k (tokCells ts us)from fun o1 o2=>(hown5.alloc o1).alloc o2);have HC:=yH (show k+1≤maxLen∧(k+1)*56≤140737488355328∧w.heap.size≤w5.heap.size from⟨by unfold maxLen;omega,by omega,by have:=H3.out.2.2.size;have:=hk5.size;omega⟩)
      have HNEW:=yH (show ∀(o1:Obj) (j:Nat) (x:Value),[Value.int .i64 t.kind,.string T,.slice ad np cp,.int .i64 (t.at_:Int)][j]? =some x→((w5.alloc o1).alloc (.cells #[.int .i64 t.kind,.string T,.slice ad np cp,.int .i64 (t.at_:Int)] 72)).cell? ((⟨w5.heap.size+1,0,none⟩:Addr).add j)=some x from fun o1 j x hj=>by
        have h:=World.news_of_block (heap_alloc_new (w5.alloc o1) (.cells #[.int .i64 t.kind,.string T,.slice ad np cp,.int .i64 (t.at_:Int)] 72)) j x hj
        rwa [show (w5.alloc o1).heap.size=w5.heap.size+1 by simp]at h)
      have HC2:=yH (show ∀(o1 o2:Obj),w.heap.size≤((w5.alloc o1).alloc o2).heap.size∧((w5.alloc o1).alloc o2).heap.size=w5.heap.size+2 from fun o1 o2=>⟨by have:=HC.out.2.2;simp;omega,by simp⟩);have HVB:=yH (show(Value.slice a k c).ownBlock≠some w5.heap.size from fun e=>by have:=(World.ownsRow.lt hown5 _ e).2;omega);clear hT hwn hr5 hk5 hnp hrow5 hown5
      go_wp2_with (at_builtin;refine tok_append rfl _ _ rfl w.heap.size _ k _ rfl (HO.out _ _) ⟨w5.heap.size+1,0,none⟩ _ _ _ _ rfl (HNEW.out _) (by intro x hx;simp at hx;rcases hx with rfl|rfl|rfl|rfl<;>rfl) (by omega) (HC2.out _ _).1 (w5.heap.size+2) (HC2.out _ _).2 ?_;intro g cap w7 hown7 hg7 hat7 hlt7;have hcell7:=block_first hg7 HVB.out;have H7:=yH (And.intro hown7 (And.intro hg7 (And.intro hat7 hlt7)));clear hown7 hg7 hat7 hlt7)
      · go_ret3
        have hkd:t.kind=3:=(by simpa using(‹(t.kind==3)=true›));obtain⟨hT,hwn,hr5,hk5⟩:=H5.out;obtain⟨hown7,hg7,hat7,hlt7⟩:=H7.out;obtain⟨hb7,hr7,hsg7,hap7,us',F',hrow7⟩:=tok_step HW0.out HXG.out.1 H3.out.2.1 HA.out.apart H3.out.2.2 H3.out.1 HS3.out.1 HK.out hT hwn hr5 hk5 hown7 hg7 hat7 (by rw[HK.out];rfl)
        have hz:zs= []:=by
          apply Classical.byContradiction;intro hz;have h:=HMM.out;rw[tokM,if_neg hz]at h
          rcases skip_next ys with h2|h2
          · exact hz (HZ.out.symm.trans h2)
          · rw[HZ.out]at h2
            exact(token_less HS3.out.1.good hz h2.1 h2.2 h).2 hkd
        have hm:=HA.out.said
        have ht:t=⟨3,[],[],s.size⟩∧n=s.size:=by
          have h:=HMM.out;have h2:=HNN.out;rw[tokM,if_pos hz]at h;rw[hz]at h2
          cases h
          exact⟨by rw[←h2];rfl,by rw[←h2];rfl⟩
        rw[tokensL_end (HZ.out.trans hz),←ht.1]at hm;rw[←hm];refine⟨_,X,us',F',?_,hrow7,hb7⟩;rw[ht.2];rfl
      · have hkd:t.kind≠3:=by simpa using(‹(t.kind==3)=false›)
        obtain⟨hT,hwn,hr5,hk5⟩:=H5.out;obtain⟨hown7,hg7,hat7,hlt7⟩:=H7.out;obtain⟨hb7,hr7,hsg7,hap7,us',F',hrow7⟩:=tok_step HW0.out HXG.out.1 H3.out.2.1 HA.out.apart H3.out.2.2 H3.out.1 HS3.out.1 HK.out hT hwn hr5 hk5 hown7 hg7 hat7 (by rw[HK.out];rfl)
        have hz:zs≠ []:=by
          intro hz;have h:=HMM.out;rw[tokM,if_pos hz]at h
          cases h
          exact hkd rfl
        have hl:Less zs r:=by
          have h:=HMM.out;rw[tokM,if_neg hz]at h
          rcases skip_next ys with h2|h2
          · exact absurd (HZ.out.symm.trans h2) hz
          · rw[HZ.out]at h2
            exact(token_less HS3.out.1.good hz h2.1 h2.2 h).1
        have hsuf:=(skip_suf ys).len;rw[HZ.out]at hsuf;have hll:=hl.2;have hm:=HA.out.said
        have ht:tokenM (s.size-(enc (skipM ys)).length) (skipM ys)= .ok (t,r):=by
          have h:=HMM.out;rw[tokM,if_neg hz]at h;rw[HZ.out,HNN.out,h]
        rw[tokensL_go (by rw[HZ.out];exact hz) ht]at hm;have hfu:=HA.out.fuel;have hfe:=HA.out.few;refine⟨⟨f,r,us',F',ts++ [t],hr7,hsg7,hrow7,hap7,hb7,hm,by omega,by simp only[List.length_append,List.length_singleton];omega⟩,?_⟩;rw[hr7.lenAt,HA.out.rd.lenAt];omega
theorem tokens_long (s:ByteArray) (w:World) (hs:2000<s.size):
    Calls Tryz.prog 18 #[.string s] w fun e w'=>e= .returned (.tuple #[zeroV,.int .i64 0,.int .i64 3])∧Below w.heap.size w w':=by
  have hsi:(2000:Int)<(s.size:Int):=(by omega);clear hs;go_enter Tryz.func18,Tryz.ntmps18;go_wp2_with fail
  go_ret3
  exact⟨rfl,Below.refl _ _⟩
theorem tokens_bad (s:ByteArray) (w:World) (hs:s.size≤2000) (ht:isText s=false):
    Calls Tryz.prog 18 #[.string s] w fun e w'=>e= .returned (.tuple #[zeroV,.int .i64 ((place s:Nat):Int),.int .i64 2])∧Below w.heap.size w w':=by
  have HV:=yH (show _ from by have:=valid_any s w;rw[ht]at this;exact this);have hsi:¬(2000:Int)<(s.size:Int):=(by omega);obtain⟨P,hP⟩:∃P:Int,(place s:Int)=P:=⟨_,rfl⟩;rw[hP]at HV ⊢;clear hs ht hP;go_enter Tryz.func18,Tryz.ntmps18;go_wp2_with fail;refine HV.out.mono ?_;rintro e w1 ⟨rfl,hb1⟩;have H1:=yH hb1;clear hb1;go_wp2_with fail
  go_ret3
  exact⟨rfl,H1.out⟩
end Go.Proofs.YtakceggnadagmaaGreatDoor
namespace Go.Proofs.YtakceggnadagmaaGreatDoor
open Go Go.RowKit GlyphMath LexMath TreeMath
theorem WordV.ps {w:World} {F:Nat→Prop} {v:Value} {ps:List Pt} (h:WordV w F v ps):PsAt w v ps:=by
  induction h with
  |row v ps vs hown hl hF hs ih=>
    rcases hown.2 with ⟨rfl,h0⟩|⟨g,cap,cur,rfl, -, -,hle,hm, -⟩
    · have hp:ps= []:=List.eq_nil_of_length_eq_zero h0
      subst hp;exact PsAt.nil w 0
    · have hc:=hown.cellAt
      refine .mk (some ⟨g,0,none⟩) cap ps vs hl.symm (by omega) (fun k q u hq hu=>⟨g,0,rfl,fun i x hx=> ?_⟩) ih;have hi:i<5:=(List.getElem?_eq_some_iff.1 hx).1;have hk:=(List.getElem?_eq_some_iff.1 hq).1;have h5:=(hc (k*5+i) (by omega)).trans ((rowCells_get ps vs k q u hq hu hl i hi).trans hx)
      simpa [Nat.add_assoc]using h5
end Go.Proofs.YtakceggnadagmaaGreatDoor
namespace Go.Proofs.YtakceggnadagmaaGreatDoor
open Go Go.RowKit GlyphMath LexMath TreeMath ParseMath
def tokB (s:ByteArray):Except (Nat×Nat) (List Tk):=if 2000<s.size then .error (0,3)else if isText s=false then .error (place s,2)else tokensL s.size ((letters s).length+1) (letters s) []
def TkEnd (w w':World) (e:Ending) (s:ByteArray):Prop:=match tokB s with
  | .ok ts=> ∃G c,e= .returned (.tuple #[.slice (some ⟨G,0,none⟩) ts.length c,.int .i64 (s.size:Int),.int .i64 0])∧ts.length≤c∧ToksAt w' G 0 ts∧GoodS ⟨ts,0,0⟩∧Below w.heap.size w w'
  | .error (n,c)=>(c=2∨c=3)∧e= .returned (.tuple #[zeroV,.int .i64 (n:Int),.int .i64 (c:Int)])∧Below w.heap.size w w'
theorem WordV.cap {w:World} {F:Nat→Prop} {v:Value} {ps:List Pt} (h:WordV w F v ps):CapOk v:=by
  cases h with
  |row v ps vs hown hl hF hs=>
    rcases hown.2 with ⟨rfl,h0⟩|⟨g,cap,cur,rfl, -, -,hle, -⟩
    · exact⟨none,0,0,rfl,Nat.le_refl _⟩
    · exact⟨_,_,_,rfl,hle⟩
theorem ptok_any (s:ByteArray) (w:World) (hS:Signs w):Calls Tryz.prog 18 #[.string s] w fun e w'=>TkEnd w w' e s:=by
  by_cases h1:2000<s.size
  · refine(tokens_long s w h1).mono fun e w' ⟨he,hb⟩=> ?_
    unfold TkEnd tokB;rw[if_pos h1];exact⟨.inr rfl,he,hb⟩
  · cases h2:isText s with
    |false=>
      refine(tokens_bad s w (by omega) h2).mono fun e w' ⟨he,hb⟩=> ?_;unfold TkEnd tokB;rw[if_neg h1,if_pos h2];exact⟨.inl rfl,he,hb⟩
    |true=>
      obtain⟨hg1,hg2⟩:=text_good h2;refine(tokens_in s w (by omega) h2 hS).mono fun e w' he=> ?_;unfold TkEnd tokB;rw[if_neg h1,if_neg (by rw[h2];decide)]
      cases hm:tokensL s.size ((letters s).length+1) (letters s) []with
      |error x=>
        obtain⟨n,c⟩:=x;rw[hm]at he;exact he
      |ok ts=>
        rw[hm]at he;obtain⟨v,X,us,F,he,ho,hb⟩:=he;have hgood:=tokens_good (by omega) hg2 (by have:=letters_length s;omega) hm;have hpos:=hgood.pos;obtain⟨p,c,hv,hat⟩:=ho.at
        rcases ho.own.2 with ⟨_,h0⟩|⟨g,cap,cur,hv2,_,_,hle,_⟩
        · exact absurd hpos (by dsimp only;omega)
        · rw[hv]at hv2
          simp only[Value.slice.injEq,true_and]at hv2;obtain⟨rfl,rfl⟩:=hv2;subst hv
          exact⟨g,c,he,hle,fun k t hk=>by
            obtain⟨u,_,a1,a2⟩:=hat k t hk
            exact⟨u,a1.ps,a2,a1.cap⟩,hgood,hb⟩
theorem results_cell_tmp2 {fn:Func} {p u v:Tmp} {ty:TypeId} (h:fn.results= #[.cell p ty,.tmp u,.tmp v]) (tmps:Array Value) (P:Program) (w:World):
    (results fn tmps).run P w=((asAddr (tmps.getD p undef)).run P w).andThen fun a w₁=>((loadVar ty a).run P w₁).andThen fun x w₂=> .ok (.tuple #[x,tmps.getD u undef,tmps.getD v undef]) w₂:=by
  simp only[results,h];simp[Sem.run_bind,Result.andThen]
theorem prog_info:(Tryz.prog.info? 24).map (·.size)=some 2:=by kernel_rfl
theorem ret_prog {fn:Func} {p u v:Tmp} (hf:fn.results= #[.cell p 24,.tmp u,.tmp v]) {tmps:Array Value} {k:Nat} {cs:Array Value} {x y:Value} {w:World} {t:TypeId} {fr:Nat×Nat} (h:w.heap[k]? =some (.cells cs t fr)) (hc:cs.size=2) (h2:tmps.getD p undef= .pointer (some ⟨k,0,none⟩)) (h3:tmps.getD u undef=x) (h4:tmps.getD v undef=y):
    (results fn tmps).run Tryz.prog w= .ok (.tuple #[.agg cs,x,y]) w:=by
  rw[results_cell_tmp2 hf,h2,h3,h4];have:(loadVar 24 ⟨k,0,none⟩).run Tryz.prog w= .ok (.agg cs) w:=run_loadVar_row (P:=Tryz.prog) w k t 24 _ fr _ h Tryz.underlying24 rfl (by rw[prog_info,hc]);simp[asAddr,Result.andThen,this]
end Go.Proofs.YtakceggnadagmaaGreatDoor
