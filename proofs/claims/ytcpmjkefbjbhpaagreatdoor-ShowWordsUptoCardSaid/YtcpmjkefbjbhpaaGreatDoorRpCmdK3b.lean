/-
  Proved: the statements' own parser's command where no compound one stands: a word at the end. Conditions: the parser lies in memory.
-/
import Derived.Test.YtcpmjkefbjbhpaaGreatDoorSw32
namespace Go.Proofs.YtcpmjkefbjbhpaaGreatDoor
open Go Go.RowKit GlyphMath LexMath TreeMath ParseMath
set_option maxHeartbeats 16000000 in
set_option maxRecDepth 10000 in
set_option linter.unusedVariables false in
theorem qcmd_k3b {w0 w:World} {X:Nat} {S S0:PS} {m:Tr×PS} {NB:Bool} {tn tx:ByteArray} {wl:Nat} {wd:List Pt} {D:Int} (HX:Hid (w0.heap.size≤X∧X<w.heap.size)) (HR1:Hid (RdH w0 w (w.alloc ZNR) X S))
    (HDP:Hid (∀W,Rr w0 W X S→Calls Tryz.prog 177 #[.pointer (some ⟨X,0,none⟩),.int .i64 D] W fun e w'=>e= .returned (.tuple #[])∧QStep w0 W w' X S0))
    (HCM:Hid (∀W,Rr w0 W X S0→Calls Tryz.prog 178 #[.pointer (some ⟨X,0,none⟩),.int .i64 D] W fun e w'=>e= .returned (.tuple #[.agg zeroN.toArray,.bool false])∧QStep w0 W w' X S0))
    (HN:Hid (∀W,Rr w0 W X S0→Calls Tryz.prog 29 #[.pointer (some ⟨X,0,none⟩)] W fun e w'=> ∃p k a,e= .returned (.agg #[.int .i64 1,.string tx,.slice p wl k,.int .i64 a])∧(PsAt w0 (.slice p wl k) wd∧wl≤k)∧Below W.heap.size W w'))
    (HPL:Hid (∀W,Below w0.heap.size w0 W→∀p k,PsAt w0 (.slice p wl k) wd→Calls Tryz.prog 93 #[.agg #[.slice p wl k]] W fun e w'=>e= .returned (.tuple #[.string tn,.bool true])∧Below W.heap.size W w'))
    (HNA:Hid (∀W,Below w0.heap.size w0 W→Calls Tryz.prog 46 #[.string tn] W fun e w'=>e= .returned (.bool NB)∧Below W.heap.size W w'))
    (HRV:Hid (∀W,Calls Tryz.prog 50 #[.string tn] W fun e w'=>e= .returned (.bool false)∧W=w'))
    (HSM:Hid (∀W,Rr w0 W X S0→Calls Tryz.prog 181 #[.pointer (some ⟨X,0,none⟩)] W fun e w'=> ∃t,TrAt w0 W w' e X t m.2∧(m.2.err=0→t=m.1))) (hk:S0.hd.kind=1) (he:S0.err=0) (hnk:S0.take.hd.kind=3):
    Calls Tryz.prog 144 #[.pointer (some ⟨X,0,none⟩),.int .i64 D] w fun e w'=> ∃t,TrAt w0 w w' e X t m.2∧(m.2.err=0→t=m.1):=by
  have HSK:=yH (And.intro hk (And.intro he (And.intro hnk trivial)));clear hk he hnk;go_enter Tryz.func144,Tryz.ntmps144
  go_upto_region 12 with (first
    |(go_at_call 177;refine(HDP.out _ HR1.out.pr).mono ?_;rintro en w2 ⟨rfl,hs⟩;have HR2:=yH (HR1.out.step HX.out.2 hs);clear hs)
    |(go_at_call 178;refine(HCM.out _ HR2.out.pr).mono ?_;rintro en w3 ⟨rfl,hs⟩;have HR3:=yH (HR2.out.step HX.out.2 hs);clear hs)
    |(refine wpList_store_row (by rfl) 74 (.tmp 5) (.tmp 18) (by rfl) w3.heap.size zeroN.toArray (by rfl) (by rfl) 74 zeroN.toArray (heap_alloc_new w3 _) (by rw[rtree_info];rfl) rfl (all_oneCell_toArray (ofC_cel _ _ _ _).2) ?_;rw[World.setRow_alloc_new];have hm:=HR3.out.new HX.out.2 (below_new w3 (.cells zeroN.toArray 74));obtain⟨w4,hw⟩:∃W,W=w3.alloc (.cells zeroN.toArray 74):=⟨_,rfl⟩;rw[←hw]at hm ⊢;have HR4:=yH hm;clear hw hm)
    |(go_at_call 29;refine(HN.out _ HR4.out.pr).mono ?_;rintro en w5 ⟨p5,k5,a5,rfl,hu,hb⟩;have qf:=tok_f2 (1) a5 tx p5 wl k5;have HR5:=yH (HR4.out.new HX.out.2 hb);have HC5:=yH (HPL.out _ HR5.out.pr.below p5 k5 hu.1);clear hb hu)
    |(go_at_call 93;(with_reducible refine HC5.out.mono ?_);rintro en w6 ⟨rfl,hb⟩;have HR6:=yH (HR5.out.new HX.out.2 hb);clear hb)
    |(go_at_call 29;refine(HN.out _ HR6.out.pr).mono ?_;rintro en w7 ⟨p7,k7,a7,rfl, -,hb⟩;have qf7:=tok_f0 (1) a7 tx p7 wl k7;have HR7:=yH (HR6.out.new HX.out.2 hb);clear hb)
    |(go_at_call 50;refine(HRV.out _).mono ?_;rintro en w8 ⟨rfl,rfl⟩)
    |(go_at_call 30;refine(qfail_any HR7.out.pr 2 (by decide) (by decide)).mono ?_;rintro en w9 ⟨rfl,hs⟩;have HR9:=yH (HR7.out.step HX.out.2 hs);clear hs))
  go_cut [109]from 62 to 109 (fun v wx=>v= .bool false∧RdH w0 w wx X S0)
  case first=>
    obtain⟨L,G,c,i,e,a,hO,hst⟩:=HR7.out.pr
    have he0:e=0:=by
      have h1:=HSK.out.2.1;rw[←hst]at h1;unfold stR at h1
      split at h1
      · assumption
      · exact h1
    subst he0;have hk3:(stR L i 0 a).hd.kind≠3:=(by rw[hst,HSK.out.1];decide);obtain⟨hlt,htk, -, -⟩:=hO.nd hk3;rw[hst]at htk;have hnk:(stR L (i+1) 0 a).hd.kind=3:=(by rw[←htk];exact HSK.out.2.2.1);obtain⟨nt,hnt⟩:∃nt,T (stR L (i+1) 0 a).hd.text=nt:=⟨_,rfl⟩
    obtain⟨N,hN⟩:∃N,L.length=N:=⟨_,rfl⟩;obtain⟨i1,hi1⟩:∃i1,i+1=i1:=⟨_,rfl⟩;have hfew:=hO.good.few;dsimp only at hfew;have hwr:IntKind.i64.wrap ((i:Int)+1)=(i1:Int):=(by rw[←hi1];exact wrapI (by omega));have hq0:(0:Int)≤(i1:Int):=(by omega);have hq1:(i1:Int)<(N:Int):=(by omega);rw[hi1]at hnk hnt;have HF:=yH (fun (W:World) (hW:RrO w0 W X L G c i 0 a)=>fn_cells hW hN hi1 hk3 hnk hnt);have HO7:=yH (hO.kept (D:=fun _=>False) (Kept.of_below (below_drewW (Below.refl _ w7))) (fun h=>h) fun _ h=>h.elim);have HR7d:=yH (HR7.out.drew HX.out.2);clear hO hst hk3 hlt htk hnk hnt hN hi1 hfew;refine wp_region_held_drew (S:=(fun W=>W.cell? ⟨X,0,none⟩=some (.slice (some ⟨G,0,none⟩) N c)∧W.cell? ⟨X,1,none⟩=some (.int .i64 (i:Int))∧W.cell? ⟨X,2,none⟩=some (.int .i64 0)∧W.cell? ⟨G,i1*4,none⟩=some (.int .i64 3)∧W.cell? ⟨G,i1*4+1,none⟩=some (.string nt))) (by kernel_rfl) ?_ (fun hHeld=> ?_)
    · exact HF.out _ HO7.out
    refine wpAnyH_take (i:=0) (oi:= { dst:=some 62,op:=Op.move (Operand.tmp 0),type:=_,pos:=_,after:=_,guard:=_ }) (v:= ?_) rfl (by kernel_rfl) (by kernel_rfl) (by kernel_rfl) (fun _ _ _ h=>h) (Or.inl ⟨by rfl,?_⟩) (by assumption) ?_;rotate_left
    · (intro w hSw;(try dsimp only at hSw);go_simp);try with_reducible rfl
    (try simp only[Act.put,pS])
    refine wpAnyH_take (i:=1) (oi:= { dst:=some 63,op:=Op.nilCheck (Operand.tmp 62),type:=_,pos:=_,after:=_,guard:=_ }) (v:= ?_) rfl (by kernel_rfl) (by kernel_rfl) (by kernel_rfl) (fun _ _ _ h=>h) (Or.inl ⟨by rfl,?_⟩) (by assumption) ?_;rotate_left
    · (intro w hSw;(try dsimp only at hSw);go_simp);try with_reducible rfl
    (try simp only[Act.put,pS])
    refine wpAnyH_take (i:=2) (oi:= { dst:=some 64,op:=Op.fieldAddr _ (Operand.tmp 63) 2,type:=_,pos:=_,after:=_,guard:=_ }) (v:= ?_) rfl (by kernel_rfl) (by kernel_rfl) (by kernel_rfl) (fun _ _ _ h=>h) (Or.inl ⟨by rfl,?_⟩) (by assumption) ?_;rotate_left
    · (intro w hSw;(try dsimp only at hSw);go_simp);try with_reducible rfl
    (try simp only[Act.put,pS])
    refine wpAnyH_take (i:=3) (oi:= { dst:=some 65,op:=Op.load _ (Operand.tmp 64),type:=_,pos:=_,after:=_,guard:=_ }) (v:= ?_) rfl (by kernel_rfl) (by kernel_rfl) (by kernel_rfl) (fun _ _ _ h=>h) (Or.inl ⟨by rfl,?_⟩) (by assumption) ?_;rotate_left
    · (intro w hSw;(try dsimp only at hSw);go_simp);try with_reducible rfl
    (try simp only[Act.put,pS])
    refine wpAnyH_take (i:=4) (oi:= { dst:=some 66,op:=Op.binOp BinOp.eql _ (Operand.tmp 65) (Operand.const (Value.int IntKind.i64 0)) _,type:=_,pos:=_,after:=_,guard:=_ }) (v:= ?_) rfl (by kernel_rfl) (by kernel_rfl) (by kernel_rfl) (fun _ _ _ h=>h) (Or.inl ⟨by rfl,?_⟩) (by assumption) ?_;rotate_left
    · (intro w hSw;(try dsimp only at hSw);go_simp);try with_reducible rfl
    (try simp only[Act.put,pS])
    refine wpAnyH_take (i:=5) (oi:= { dst:=some 67,op:=Op.move (Operand.tmp 66),type:=_,pos:=_,after:=_,guard:=_ }) (v:= ?_) rfl (by kernel_rfl) (by kernel_rfl) (by kernel_rfl) (fun _ _ _ h=>h) (Or.inl ⟨by rfl,?_⟩) (by assumption) ?_;rotate_left
    · (intro w hSw;(try dsimp only at hSw);go_simp);try with_reducible rfl
    (try simp only[Act.put,pS])
    refine wpAnyH_take (i:=6) (oi:= { dst:=some 68,op:=Op.move (Operand.tmp 0),type:=_,pos:=_,after:=_,guard:=_ }) (v:= ?_) rfl (by kernel_rfl) (by kernel_rfl) (by kernel_rfl) (fun _ _ _ h=>h) (Or.inl ⟨by rfl,?_⟩) (by assumption) ?_;rotate_left
    · (intro w hSw;(try dsimp only at hSw);go_simp);try with_reducible rfl
    (try simp only[Act.put,pS])
    refine wpAnyH_ready (rs:= [7]) (by kernel_rfl) (by simp) ?_;refine AllReadyH.cons (o:= { dst:=some 69,op:=Op.call { callee:=Callee.value (Operand.func 29),args:= #[Operand.tmp 68],argTypes:=_ },type:=_,pos:=_,after:=_,guard:=_ }) rfl (fun K hK=> ?_) AllReadyH.nil;go_simp
    (go_at_call 29;refine(HN.out _ HR7d.out.pr).mono ?_;rintro en w12 ⟨p12,k12,a12,rfl, -,hb⟩;have qf12:=tok_f0 1 a12 tx p12 wl k12;have HO12:=yH (HO7.out.kept (D:=fun _=>False) (Kept.of_below hb) (fun h=>h) fun _ h=>h.elim);have HR12:=yH (HR7d.out.new HX.out.2 hb);clear hb)
    (try go_wp2_with fail)
    refine hK.out _ _ ?_ (fun hHeld=> ?_)
    · exact HF.out _ HO12.out
    clear hK K
    (try simp only[Act.put,pS])
    refine wpAnyH_take (i:=8) (oi:= { dst:=some 70,op:=Op.field _ (Operand.tmp 69) 0,type:=_,pos:=_,after:=_,guard:=_ }) (v:= ?_) rfl (by kernel_rfl) (by kernel_rfl) (by kernel_rfl) (fun _ _ _ h=>h) (Or.inl ⟨by rfl,?_⟩) (by assumption) ?_;rotate_left
    · (intro w hSw;(try dsimp only at hSw);go_simp);try with_reducible rfl
    (try simp only[Act.put,pS])
    refine wpAnyH_take (i:=9) (oi:= { dst:=some 71,op:=Op.binOp BinOp.eql _ (Operand.tmp 70) (Operand.const (Value.int IntKind.i64 1)) _,type:=_,pos:=_,after:=_,guard:=_ }) (v:= ?_) rfl (by kernel_rfl) (by kernel_rfl) (by kernel_rfl) (fun _ _ _ h=>h) (Or.inl ⟨by rfl,?_⟩) (by assumption) ?_;rotate_left
    · (intro w hSw;(try dsimp only at hSw);go_simp);try with_reducible rfl
    (try simp only[Act.put,pS])
    refine wpAnyH_take (i:=10) (oi:= { dst:=some 72,op:=Op.pick (Operand.tmp 67) (Operand.tmp 71) (Operand.const (Value.bool false)),type:=_,pos:=_,after:=_,guard:=_ }) (v:= ?_) rfl (by kernel_rfl) (by kernel_rfl) (by kernel_rfl) (fun _ _ _ h=>h) (Or.inl ⟨by rfl,?_⟩) (by assumption) ?_;rotate_left
    · (intro w hSw;(try dsimp only at hSw);go_simp);try with_reducible rfl
    (try simp only[Act.put,pS])
    refine wpAnyH_take (i:=11) (oi:= { dst:=some 73,op:=Op.move (Operand.tmp 72),type:=_,pos:=_,after:=_,guard:=_ }) (v:= ?_) rfl (by kernel_rfl) (by kernel_rfl) (by kernel_rfl) (fun _ _ _ h=>h) (Or.inl ⟨by rfl,?_⟩) (by assumption) ?_;rotate_left
    · (intro w hSw;(try dsimp only at hSw);go_simp);try with_reducible rfl
    (try simp only[Act.put,pS])
    refine wpAnyH_take (i:=12) (oi:= { dst:=some 74,op:=Op.move (Operand.tmp 10),type:=_,pos:=_,after:=_,guard:=_ }) (v:= ?_) rfl (by kernel_rfl) (by kernel_rfl) (by kernel_rfl) (fun _ _ _ h=>h) (Or.inl ⟨by rfl,?_⟩) (by assumption) ?_;rotate_left
    · (intro w hSw;(try dsimp only at hSw);go_simp);try with_reducible rfl
    (try simp only[Act.put,pS])
    refine wpAnyH_take (i:=13) (oi:= { dst:=some 75,op:=Op.pick (Operand.tmp 73) (Operand.tmp 74) (Operand.const (Value.bool false)),type:=_,pos:=_,after:=_,guard:=_ }) (v:= ?_) rfl (by kernel_rfl) (by kernel_rfl) (by kernel_rfl) (fun _ _ _ h=>h) (Or.inl ⟨by rfl,?_⟩) (by assumption) ?_;rotate_left
    · (intro w hSw;(try dsimp only at hSw);go_simp);try with_reducible rfl
    (try simp only[Act.put,pS])
    refine wpAnyH_take (i:=14) (oi:= { dst:=some 76,op:=Op.move (Operand.tmp 75),type:=_,pos:=_,after:=_,guard:=_ }) (v:= ?_) rfl (by kernel_rfl) (by kernel_rfl) (by kernel_rfl) (fun _ _ _ h=>h) (Or.inl ⟨by rfl,?_⟩) (by assumption) ?_;rotate_left
    · (intro w hSw;(try dsimp only at hSw);go_simp);try with_reducible rfl
    (try simp only[Act.put,pS])
    refine wpAnyH_take (i:=15) (oi:= { dst:=some 77,op:=Op.move (Operand.tmp 0),type:=_,pos:=_,after:=_,guard:=_ }) (v:= ?_) rfl (by kernel_rfl) (by kernel_rfl) (by kernel_rfl) (fun _ _ _ h=>h) (Or.inl ⟨by rfl,?_⟩) (by assumption) ?_;rotate_left
    · (intro w hSw;(try dsimp only at hSw);go_simp);try with_reducible rfl
    (try simp only[Act.put,pS])
    refine wpAnyH_take (i:=16) (oi:= { dst:=some 78,op:=Op.nilCheck (Operand.tmp 77),type:=_,pos:=_,after:=_,guard:=_ }) (v:= ?_) rfl (by kernel_rfl) (by kernel_rfl) (by kernel_rfl) (fun _ _ _ h=>h) (Or.inl ⟨by rfl,?_⟩) (by assumption) ?_;rotate_left
    · (intro w hSw;(try dsimp only at hSw);go_simp);try with_reducible rfl
    (try simp only[Act.put,pS])
    refine wpAnyH_take (i:=17) (oi:= { dst:=some 79,op:=Op.fieldAddr _ (Operand.tmp 78) 0,type:=_,pos:=_,after:=_,guard:=_ }) (v:= ?_) rfl (by kernel_rfl) (by kernel_rfl) (by kernel_rfl) (fun _ _ _ h=>h) (Or.inl ⟨by rfl,?_⟩) (by assumption) ?_;rotate_left
    · (intro w hSw;(try dsimp only at hSw);go_simp);try with_reducible rfl
    (try simp only[Act.put,pS])
    refine wpAnyH_take (i:=18) (oi:= { dst:=some 80,op:=Op.load _ (Operand.tmp 79),type:=_,pos:=_,after:=_,guard:=_ }) (v:= ?_) rfl (by kernel_rfl) (by kernel_rfl) (by kernel_rfl) (fun _ _ _ h=>h) (Or.inl ⟨by rfl,?_⟩) (by assumption) ?_;rotate_left
    · (intro w hSw;(try dsimp only at hSw);go_simp);try with_reducible rfl
    (try simp only[Act.put,pS])
    refine wpAnyH_take (i:=19) (oi:= { dst:=some 81,op:=Op.move (Operand.tmp 0),type:=_,pos:=_,after:=_,guard:=_ }) (v:= ?_) rfl (by kernel_rfl) (by kernel_rfl) (by kernel_rfl) (fun _ _ _ h=>h) (Or.inl ⟨by rfl,?_⟩) (by assumption) ?_;rotate_left
    · (intro w hSw;(try dsimp only at hSw);go_simp);try with_reducible rfl
    (try simp only[Act.put,pS])
    refine wpAnyH_take (i:=20) (oi:= { dst:=some 82,op:=Op.nilCheck (Operand.tmp 81),type:=_,pos:=_,after:=_,guard:=_ }) (v:= ?_) rfl (by kernel_rfl) (by kernel_rfl) (by kernel_rfl) (fun _ _ _ h=>h) (Or.inl ⟨by rfl,?_⟩) (by assumption) ?_;rotate_left
    · (intro w hSw;(try dsimp only at hSw);go_simp);try with_reducible rfl
    (try simp only[Act.put,pS])
    refine wpAnyH_take (i:=21) (oi:= { dst:=some 83,op:=Op.fieldAddr _ (Operand.tmp 82) 1,type:=_,pos:=_,after:=_,guard:=_ }) (v:= ?_) rfl (by kernel_rfl) (by kernel_rfl) (by kernel_rfl) (fun _ _ _ h=>h) (Or.inl ⟨by rfl,?_⟩) (by assumption) ?_;rotate_left
    · (intro w hSw;(try dsimp only at hSw);go_simp);try with_reducible rfl
    (try simp only[Act.put,pS])
    refine wpAnyH_take (i:=22) (oi:= { dst:=some 84,op:=Op.load _ (Operand.tmp 83),type:=_,pos:=_,after:=_,guard:=_ }) (v:= ?_) rfl (by kernel_rfl) (by kernel_rfl) (by kernel_rfl) (fun _ _ _ h=>h) (Or.inl ⟨by rfl,?_⟩) (by assumption) ?_;rotate_left
    · (intro w hSw;(try dsimp only at hSw);go_simp);try with_reducible rfl
    (try simp only[Act.put,pS])
    refine wpAnyH_take (i:=23) (oi:= { dst:=some 85,op:=Op.binOp BinOp.add _ (Operand.tmp 84) (Operand.const (Value.int IntKind.i64 1)) _,type:=_,pos:=_,after:=_,guard:=_ }) (v:= ?_) rfl (by kernel_rfl) (by kernel_rfl) (by kernel_rfl) (fun _ _ _ h=>h) (Or.inl ⟨by rfl,?_⟩) (by assumption) ?_;rotate_left
    · (intro w hSw;(try dsimp only at hSw);go_simp);try with_reducible rfl
    (try simp only[Act.put,pS])
    refine wpAnyH_take (i:=24) (oi:= { dst:=some 86,op:=Op.indexAddr _ (Operand.tmp 80) (Operand.tmp 85),type:=_,pos:=_,after:=_,guard:=_ }) (v:= ?_) rfl (by kernel_rfl) (by kernel_rfl) (by kernel_rfl) (fun _ _ _ h=>h) (Or.inl ⟨by rfl,?_⟩) (by assumption) ?_;rotate_left
    · (intro w hSw;(try dsimp only at hSw);go_simp);try with_reducible rfl
    (try simp only[Act.put,pS])
    refine wpAnyH_take (i:=25) (oi:= { dst:=some 87,op:=Op.fieldAddr _ (Operand.tmp 86) 0,type:=_,pos:=_,after:=_,guard:=_ }) (v:= ?_) rfl (by kernel_rfl) (by kernel_rfl) (by kernel_rfl) (fun _ _ _ h=>h) (Or.inl ⟨by rfl,?_⟩) (by assumption) ?_;rotate_left
    · (intro w hSw;(try dsimp only at hSw);go_simp);try with_reducible rfl
    (try simp only[Act.put,pS])
    refine wpAnyH_take (i:=26) (oi:= { dst:=some 88,op:=Op.load _ (Operand.tmp 87),type:=_,pos:=_,after:=_,guard:=_ }) (v:= ?_) rfl (by kernel_rfl) (by kernel_rfl) (by kernel_rfl) (fun _ _ _ h=>h) (Or.inl ⟨by rfl,?_⟩) (by assumption) ?_;rotate_left
    · (intro w hSw;(try dsimp only at hSw);go_simp);try with_reducible rfl
    (try simp only[Act.put,pS])
    refine wpAnyH_take (i:=27) (oi:= { dst:=some 89,op:=Op.binOp BinOp.eql _ (Operand.tmp 88) (Operand.const (Value.int IntKind.i64 2)) _,type:=_,pos:=_,after:=_,guard:=_ }) (v:= ?_) rfl (by kernel_rfl) (by kernel_rfl) (by kernel_rfl) (fun _ _ _ h=>h) (Or.inl ⟨by rfl,?_⟩) (by assumption) ?_;rotate_left
    · (intro w hSw;(try dsimp only at hSw);go_simp);try with_reducible rfl
    (try simp only[Act.put,pS])
    refine wpAnyH_take (i:=28) (oi:= { dst:=some 90,op:=Op.pick (Operand.tmp 76) (Operand.tmp 89) (Operand.const (Value.bool false)),type:=_,pos:=_,after:=_,guard:=_ }) (v:= ?_) rfl (by kernel_rfl) (by kernel_rfl) (by kernel_rfl) (fun _ _ _ h=>h) (Or.inl ⟨by rfl,?_⟩) (by assumption) ?_;rotate_left
    · (intro w hSw;(try dsimp only at hSw);go_simp);try with_reducible rfl
    (try simp only[Act.put,pS])
    refine wpAnyH_take (i:=29) (oi:= { dst:=some 91,op:=Op.move (Operand.tmp 90),type:=_,pos:=_,after:=_,guard:=_ }) (v:= ?_) rfl (by kernel_rfl) (by kernel_rfl) (by kernel_rfl) (fun _ _ _ h=>h) (Or.inl ⟨by rfl,?_⟩) (by assumption) ?_;rotate_left
    · (intro w hSw;(try dsimp only at hSw);go_simp);try with_reducible rfl
    (try simp only[Act.put,pS])
    refine wpAnyH_take (i:=30) (oi:= { dst:=some 92,op:=Op.move (Operand.tmp 0),type:=_,pos:=_,after:=_,guard:=_ }) (v:=undef) rfl (by kernel_rfl) (by kernel_rfl) (by kernel_rfl) (fun _ _ _ h=>h) (Or.inr ⟨by rfl,rfl⟩) (by assumption) ?_
    (try simp only[Act.put,pS])
    refine wpAnyH_take (i:=31) (oi:= { dst:=some 93,op:=Op.nilCheck (Operand.tmp 92),type:=_,pos:=_,after:=_,guard:=_ }) (v:=undef) rfl (by kernel_rfl) (by kernel_rfl) (by kernel_rfl) (fun _ _ _ h=>h) (Or.inr ⟨by rfl,rfl⟩) (by assumption) ?_
    (try simp only[Act.put,pS])
    refine wpAnyH_take (i:=32) (oi:= { dst:=some 94,op:=Op.fieldAddr _ (Operand.tmp 93) 0,type:=_,pos:=_,after:=_,guard:=_ }) (v:=undef) rfl (by kernel_rfl) (by kernel_rfl) (by kernel_rfl) (fun _ _ _ h=>h) (Or.inr ⟨by rfl,rfl⟩) (by assumption) ?_
    (try simp only[Act.put,pS])
    refine wpAnyH_take (i:=33) (oi:= { dst:=some 95,op:=Op.load _ (Operand.tmp 94),type:=_,pos:=_,after:=_,guard:=_ }) (v:=undef) rfl (by kernel_rfl) (by kernel_rfl) (by kernel_rfl) (fun _ _ _ h=>h) (Or.inr ⟨by rfl,rfl⟩) (by assumption) ?_
    (try simp only[Act.put,pS])
    refine wpAnyH_take (i:=34) (oi:= { dst:=some 96,op:=Op.move (Operand.tmp 0),type:=_,pos:=_,after:=_,guard:=_ }) (v:=undef) rfl (by kernel_rfl) (by kernel_rfl) (by kernel_rfl) (fun _ _ _ h=>h) (Or.inr ⟨by rfl,rfl⟩) (by assumption) ?_
    (try simp only[Act.put,pS])
    refine wpAnyH_take (i:=35) (oi:= { dst:=some 97,op:=Op.nilCheck (Operand.tmp 96),type:=_,pos:=_,after:=_,guard:=_ }) (v:=undef) rfl (by kernel_rfl) (by kernel_rfl) (by kernel_rfl) (fun _ _ _ h=>h) (Or.inr ⟨by rfl,rfl⟩) (by assumption) ?_
    (try simp only[Act.put,pS])
    refine wpAnyH_take (i:=36) (oi:= { dst:=some 98,op:=Op.fieldAddr _ (Operand.tmp 97) 1,type:=_,pos:=_,after:=_,guard:=_ }) (v:=undef) rfl (by kernel_rfl) (by kernel_rfl) (by kernel_rfl) (fun _ _ _ h=>h) (Or.inr ⟨by rfl,rfl⟩) (by assumption) ?_
    (try simp only[Act.put,pS])
    refine wpAnyH_take (i:=37) (oi:= { dst:=some 99,op:=Op.load _ (Operand.tmp 98),type:=_,pos:=_,after:=_,guard:=_ }) (v:=undef) rfl (by kernel_rfl) (by kernel_rfl) (by kernel_rfl) (fun _ _ _ h=>h) (Or.inr ⟨by rfl,rfl⟩) (by assumption) ?_
    (try simp only[Act.put,pS])
    refine wpAnyH_take (i:=38) (oi:= { dst:=some 100,op:=Op.binOp BinOp.add _ (Operand.tmp 99) (Operand.const (Value.int IntKind.i64 1)) _,type:=_,pos:=_,after:=_,guard:=_ }) (v:=undef) rfl (by kernel_rfl) (by kernel_rfl) (by kernel_rfl) (fun _ _ _ h=>h) (Or.inr ⟨by rfl,rfl⟩) (by assumption) ?_
    (try simp only[Act.put,pS])
    refine wpAnyH_take (i:=39) (oi:= { dst:=some 101,op:=Op.indexAddr _ (Operand.tmp 95) (Operand.tmp 100),type:=_,pos:=_,after:=_,guard:=_ }) (v:=undef) rfl (by kernel_rfl) (by kernel_rfl) (by kernel_rfl) (fun _ _ _ h=>h) (Or.inr ⟨by rfl,rfl⟩) (by assumption) ?_
    (try simp only[Act.put,pS])
    refine wpAnyH_take (i:=40) (oi:= { dst:=some 102,op:=Op.fieldAddr _ (Operand.tmp 101) 1,type:=_,pos:=_,after:=_,guard:=_ }) (v:=undef) rfl (by kernel_rfl) (by kernel_rfl) (by kernel_rfl) (fun _ _ _ h=>h) (Or.inr ⟨by rfl,rfl⟩) (by assumption) ?_
    (try simp only[Act.put,pS])
    refine wpAnyH_take (i:=41) (oi:= { dst:=some 103,op:=Op.load _ (Operand.tmp 102),type:=_,pos:=_,after:=_,guard:=_ }) (v:=undef) rfl (by kernel_rfl) (by kernel_rfl) (by kernel_rfl) (fun _ _ _ h=>h) (Or.inr ⟨by rfl,rfl⟩) (by assumption) ?_
    (try simp only[Act.put,pS])
    refine wpAnyH_take (i:=42) (oi:= { dst:=some 104,op:=Op.binOp BinOp.eql _ (Operand.tmp 103) (Operand.const (Value.string { data:= #[40] })) _,type:=_,pos:=_,after:=_,guard:=_ }) (v:=undef) rfl (by kernel_rfl) (by kernel_rfl) (by kernel_rfl) (fun _ _ _ h=>h) (Or.inr ⟨by rfl,rfl⟩) (by assumption) ?_
    (try simp only[Act.put,pS])
    refine wpAnyH_take (i:=43) (oi:= { dst:=some 105,op:=Op.pick (Operand.tmp 91) (Operand.tmp 104) (Operand.const (Value.bool false)),type:=_,pos:=_,after:=_,guard:=_ }) (v:= ?_) rfl (by kernel_rfl) (by kernel_rfl) (by kernel_rfl) (fun _ _ _ h=>h) (Or.inl ⟨by rfl,?_⟩) (by assumption) ?_;rotate_left
    · (intro w hSw;(try dsimp only at hSw);go_simp);try with_reducible rfl
    (try simp only[Act.put,pS])
    refine wpAnyH_take (i:=44) (oi:= { dst:=some 106,op:=Op.move (Operand.tmp 105),type:=_,pos:=_,after:=_,guard:=_ }) (v:= ?_) rfl (by kernel_rfl) (by kernel_rfl) (by kernel_rfl) (fun _ _ _ h=>h) (Or.inl ⟨by rfl,?_⟩) (by assumption) ?_;rotate_left
    · (intro w hSw;(try dsimp only at hSw);go_simp);try with_reducible rfl
    (try simp only[Act.put,pS])
    refine wpAnyH_take (i:=45) (oi:= { dst:=some 107,op:=Op.move (Operand.tmp 9),type:=_,pos:=_,after:=_,guard:=_ }) (v:=undef) rfl (by kernel_rfl) (by kernel_rfl) (by kernel_rfl) (fun _ _ _ h=>h) (Or.inr ⟨by rfl,rfl⟩) (by assumption) ?_
    (try simp only[Act.put,pS])
    refine wpAnyH_take (i:=46) (oi:= { dst:=some 108,op:=Op.call { callee:=Callee.value (Operand.func 46),args:= #[Operand.tmp 107],argTypes:=_ },type:=_,pos:=_,after:=_,guard:=_ }) (v:=undef) rfl (by kernel_rfl) (by kernel_rfl) (by kernel_rfl) (fun _ _ _ h=>h) (Or.inr ⟨by rfl,rfl⟩) (by assumption) ?_
    (try simp only[Act.put,pS])
    refine wpAnyH_take (i:=47) (oi:= { dst:=some 109,op:=Op.pick (Operand.tmp 106) (Operand.tmp 108) (Operand.const (Value.bool false)),type:=_,pos:=_,after:=_,guard:=_ }) (v:= ?_) rfl (by kernel_rfl) (by kernel_rfl) (by kernel_rfl) (fun _ _ _ h=>h) (Or.inl ⟨by rfl,?_⟩) (by assumption) ?_;rotate_left
    · (intro w hSw;(try dsimp only at hSw);go_simp);try with_reducible rfl
    (try simp only[Act.put,pS])
    refine wpAnyH_done (by kernel_rfl) ?_ _
    (try go_wp2_with fail)
    go_meet
    exact⟨rfl,HR12.out⟩
  case rest=>
  obtain⟨rfl,hcut⟩:=hcut;have HRX:=yH hcut;clear hcut
  go_wp2_with (first
    |(go_at_call 181;refine(HSM.out _ HRX.out.pr).mono ?_;rintro en w10 ⟨t10,⟨c10,rfl,hcel,hnew,hs⟩,hal⟩;have HL:=yH (And.intro hcel (And.intro (hnew.base HRX.out.size) hal));have HR10:=yH (HRX.out.step HX.out.2 hs);clear hcel hnew hs hal)
    |(refine wpList_store_row (by rfl) 74 (.tmp 4) (.tmp 115) (by rfl) w.heap.size c10.toArray (by rfl) (by rfl) 74 zeroN.toArray HR10.out.zero (by rw[rtree_info];simp[HL.out.1.1]) (by simp[HL.out.1.1,zeroN,ofC]) (all_oneCell_toArray HL.out.1.2) ?_))
  (try simp only[Exit.inBlock,Exit.then])
  refine bodyPost_ret (ret_rtree rfl (setRow_heap _ w.heap.size zeroN.toArray _ 74 (0,0) HR10.out.zero) HL.out.1 rfl) rfl ?_;exact⟨t10,HR10.out.ret HX.out.2 HX.out.1 HL.out.1 HL.out.2.1,HL.out.2.2⟩
end Go.Proofs.YtcpmjkefbjbhpaaGreatDoor
