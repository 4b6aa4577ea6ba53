/-
  Proved: a contract of a walk's node, at a node that is there. Conditions: the nodes lie in memory, the program's shapes lie as they should.
-/
import Derived.Test.YtcpmjkefbjbhpaaGreatDoorSw09
import Derived.Test.YtcpmjkefbjbhpaaGreatDoorSw37
import Derived.LoopTactic
namespace Go.Proofs.YtcpmjkefbjbhpaaGreatDoor
open Go Go.RowKit GlyphMath LexMath TreeMath
theorem heap_set_two {w:World} {X:Nat} {a b:Value} {t:TypeId} (h:w.heap[X]? =some (.cells #[a,b] t (0,0))) (u:Value):(w.setCell ⟨X,1,none⟩ u).heap[X]? =some (.cells #[a,u] t (0,0)):=by
  simp[World.setCell,Array.getElem?_modify,h]
theorem cell_apart {w:World} {X j:Nat} {a:Addr} {v:Value} (h:w.cell? a=some v) (hn:a.block≠X) (u:Value):(w.setCell ⟨X,j,none⟩ u).cell? a=some v:=
  (World.cell?_setCell_far _ _ _ _ (fun e=>hn e.symm)).trans h
set_option maxHeartbeats 2000000 in
set_option maxRecDepth 100000 in
theorem node_next {w0:World} {X:Nat} {np:Option Addr} {nc:Nat} {ns:List Nd} {f:Nat} (hNs:NsAt w0 (.slice np ns.length nc) ns) (hS:Shapes w0) (hsm:∀n∈ns,NSmall n) (hX:w0.heap.size≤X) (hfew:ns.length≤1000)
    (ih:NodeDo w0 X (.slice np ns.length nc) ns f):NodeDo w0 X (.slice np ns.length nc) ns (f+1):=by
  intro k next w hb hw hf
  by_cases hst:k≠(next:Int)∨ns.length≤next
  · exact node_stop hst hb hw
  have hk:k=(next:Int):=Decidable.byContradiction fun e=>hst (.inl e)
  have hlt:next<ns.length:=by
    rcases Nat.lt_or_ge next ns.length with h|h
    · exact h
    · exact absurd (.inr h) hst
  subst hk;clear hst;obtain⟨n,hn⟩:∃n,ns[next]? =some n:=⟨_,List.getElem?_eq_getElem hlt⟩;obtain⟨R,hR⟩:∃R,walkT ns (f+1) (next:Int) next=R:=⟨_,rfl⟩
  have hR2:(if fitsT n&&spellsT n then kidsT (walkT ns f) ns n 0 n.kids (next+1)else none)=R:=by
    rw[←hR,walkT,if_pos rfl,hn]
  rw[hR];obtain⟨b,o,rfl,kp,wp,pp,ap,rp,kc,wc,pc,ac,rc,hK,hW,hP,hA,hD,e0,e1,e2,e3,e4,e5,e6⟩:=NsAt.node hNs hn;have HNS:=yH hNs;have HSM:=yH (hsm n (List.mem_of_getElem? hn))
  have hbX:b≠X:=by
    have:b<w0.heap.size:=World.block_lt_of_cell? w0 _ e0;omega
  have HFT:=yH (fun W (h:Below w0.heap.size w0 W)=>fits_any n kp wp pp ap rp kc wc pc ac rc W (hS.below h));have HSP:=yH (fun W (h:Below w0.heap.size w0 W)=>spells_any n kp wp pp ap rp kc wc pc ac rc W (WsAt.below hW h) (PatsAt.below hP h) (AsAt.below hA h) (AsAt.below hD h) HSM.out);obtain⟨so,hso⟩:∃s,T n.op=s:=⟨_,rfl⟩;obtain⟨sn,hsn⟩:∃s,T n.name=s:=⟨_,rfl⟩;obtain⟨KL,hKL⟩:∃s,n.kids.length=s:=⟨_,rfl⟩;obtain⟨WL,hWL⟩:∃s,n.words.length=s:=⟨_,rfl⟩;obtain⟨PL,hPL⟩:∃s,n.pats.length=s:=⟨_,rfl⟩;obtain⟨AL,hAL⟩:∃s,n.assigns.length=s:=⟨_,rfl⟩;obtain⟨RL,hRL⟩:∃s,n.redirs.length=s:=⟨_,rfl⟩;obtain⟨N,hN⟩:∃s,ns.length=s:=⟨_,rfl⟩;obtain⟨F,hF⟩:∃F,fitsT n=F:=⟨_,rfl⟩;obtain⟨SP,hSP⟩:∃F,spellsT n=F:=⟨_,rfl⟩
  have HFT:=yH (show ∀W,Below w0.heap.size w0 W→Calls Tryz.prog 116 #[.agg #[.string so,.string sn,.slice kp KL kc,.slice wp WL wc,.slice pp PL pc,.slice ap AL ac,.slice rp RL rc]] W fun e w'=>e= .returned (.bool F)∧Below W.heap.size W w' from by
    rw[←hso,←hsn,←hKL,←hWL,←hPL,←hAL,←hRL,←hF];exact HFT.out)
  have HSP:=yH (show ∀W,Below w0.heap.size w0 W→Calls Tryz.prog 117 #[.agg #[.string so,.string sn,.slice kp KL kc,.slice wp WL wc,.slice pp PL pc,.slice ap AL ac,.slice rp RL rc]] W fun e w'=>e= .returned (.bool SP)∧Below W.heap.size W w' from by
    rw[←hso,←hsn,←hKL,←hWL,←hPL,←hAL,←hRL,←hSP];exact HSP.out)
  have HTK:=yH (show ∀(kd:Nd) (j:Nat) (so' sn':ByteArray) (kp' wp' pp' ap' rp':Option Addr) (KL' WL' PL' AL' RL' kc' wc' pc' ac' rc':Nat) (TB:Bool),T kd.op=so'→T kd.name=sn'→kd.redirs.length=RL'→takesT n j kd=TB→∀W,Calls Tryz.prog 118 #[.agg #[.string so,.string sn,.slice kp KL kc,.slice wp WL wc,.slice pp PL pc,.slice ap AL ac,.slice rp RL rc],.int .i64 (j:Int),.agg #[.string so',.string sn',.slice kp' KL' kc',.slice wp' WL' wc',.slice pp' PL' pc',.slice ap' AL' ac',.slice rp' RL' rc']] W fun e w'=>e= .returned (.bool TB)∧Below W.heap.size W w' from by
    intro kd j so' sn' kp' wp' pp' ap' rp' KL' WL' PL' AL' RL' kc' wc' pc' ac' rc' TB g1 g2 g3 g4 W;subst g1 g2 g3 g4;rw[←hso,←hsn]
    exact ttakes_any n kd j _ _ _ _ _ (.slice kp' KL' kc') (.slice wp' WL' wc') (.slice pp' PL' pc') (.slice ap' AL' ac') rp' rc' W)
  rw[hso]at e0;rw[hsn]at e1;rw[hKL]at e2;rw[hWL]at e3;rw[hPL]at e4;rw[hAL]at e5;rw[hRL]at e6;rw[hN]at hw hlt hf hfew ih ⊢;have e0:=fun u=>cell_apart (X:=X) (j:=1) (cell_below e0 hb) hbX u;have e1:=fun u=>cell_apart (X:=X) (j:=1) (cell_below e1 hb) hbX u;have e2:=fun u=>cell_apart (X:=X) (j:=1) (cell_below e2 hb) hbX u;have e3:=fun u=>cell_apart (X:=X) (j:=1) (cell_below e3 hb) hbX u;have e4:=fun u=>cell_apart (X:=X) (j:=1) (cell_below e4 hb) hbX u;have e5:=fun u=>cell_apart (X:=X) (j:=1) (cell_below e5 hb) hbX u;have e6:=fun u=>cell_apart (X:=X) (j:=1) (cell_below e6 hb) hbX u;have hXw:X<w.heap.size:=(gS.1 hw).1;have HBW:=yH (show ∀(u:Value) (y:Obj),Below w0.heap.size w0 ((w.setCell ⟨X,1,none⟩ u).alloc y)from fun u y=>(hb.setCell hX u).alloc (by have:=hb.size;simpa [World.setCell]using this) y);have HKW:=yH (show ∀(u:Value) (y:Obj),Kept (fun b=>b=X) w ((w.setCell ⟨X,1,none⟩ u).alloc y)from fun u y=>(Kept.setCell (D:=fun b=>b=X) (p:=⟨X,1,none⟩) (Kept.refl _ w) (.inl rfl) u).alloc y);have HXW:=yH (show ∀(u:Value) (y:Obj),((w.setCell ⟨X,1,none⟩ u).alloc y).heap[X]? =some (.cells #[.slice (some ⟨b,o,none⟩) N nc,u] 114 (0,0))from fun u y=>(Below.heap_alloc _ y X (by simpa [World.setCell]using hXw)).trans (heap_set_two hw u))
  have HBB:=yH (show ∀(u:Value) (y:Obj),((w.setCell ⟨X,1,none⟩ u).alloc y).heap[w.heap.size]? =some y from fun u y=>by
    have:=heap_alloc_new (w.setCell ⟨X,1,none⟩ u) y
    rwa [show (w.setCell ⟨X,1,none⟩ u).heap.size=w.heap.size from by simp[World.setCell]]at this)
  have c0:w.cell? ⟨X,0,none⟩=some (.slice (some ⟨b,o,none⟩) N nc):=cell_plain hw 0;have c1:w.cell? ⟨X,1,none⟩=some (.int .i64 (next:Int)):=cell_plain hw 1;have c01:∀u,(w.setCell ⟨X,1,none⟩ u).cell? ⟨X,0,none⟩=some (.slice (some ⟨b,o,none⟩) N nc):=fun u=>cell_plain (heap_set_two hw u) 0;have fz:w.frozen? ⟨X,1,none⟩=false:=frozen_plain hw 1;have hnl:¬N≤next:=(by omega);have hni:¬(N:Int)≤(next:Int):=(by omega);have hlt0:(next:Int)<(N:Int):=(by omega);have hn1:(next:Int)+1≤9223372036854775807:=(by omega);have HM:=yH (And.intro hXw (And.intro hX (And.intro hfew (And.intro hf hlt))));have HK0:=yH hK;have hKb:(KL:Int)≤2^63-1:=(by have:=hK.few;rw[hKL]at this;unfold maxLen at this;omega);have HIH:=yH ih;have HNN:=yH (And.intro hN hKL);have HB0:=yH hb;rw[hF,hSP]at hR2;clear hso hsn hWL hPL hAL hRL hF hSP hX hfew hf hlt hw hXw hb hK hW hP hA hD hNs hS hsm hR hn hbX ih hN hKL
  cases F with
  |false=>
    have HR:=yH (show none=R from by rw[←hR2];rfl);rw[←HR.out];clear hR2;go_enter Tryz.func71,Tryz.ntmps71
    go_wp2_with (go_at_call 116;refine(HFT.out _ (HBW.out _ _)).mono ?_;rintro e w2 ⟨rfl,hb2⟩;have HB2:=yH hb2;clear hb2)
    go_ret;exact⟨(HKW.out _ _).on (Kept.of_below HB2.out|>.mono fun _ _ h=>h),(HBW.out _ _).trans (HB2.out.mono (HBW.out _ _).size),rfl⟩
  |true=>
    cases SP with
    |false=>
      have HR:=yH (show none=R from by rw[←hR2];rfl);rw[←HR.out];clear hR2;go_enter Tryz.func71,Tryz.ntmps71
      go_wp2_with (first
        |(go_at_call 116;refine(HFT.out _ (HBW.out _ _)).mono ?_;rintro e w2 ⟨rfl,hb2⟩;have hnb:=(hb2.block _ (gS.1 (HBB.out _ _)).1).trans (HBB.out _ _);have d0:=cell_plain hnb 0;have d1:=cell_plain hnb 1;have d2:=cell_plain hnb 2;have d3:=cell_plain hnb 3;have d4:=cell_plain hnb 4;have d5:=cell_plain hnb 5;have d6:=cell_plain hnb 6;have HB2:=yH hb2;clear hb2 hnb)
        |(go_at_call 117;refine(HSP.out _ ((HBW.out _ _).trans (HB2.out.mono (HBW.out _ _).size))).mono ?_;rintro e w3 ⟨rfl,hb3⟩;have HB3:=yH (HB2.out.trans (hb3.mono HB2.out.size));clear hb3))
      go_ret;exact⟨(HKW.out _ _).on (Kept.of_below HB3.out|>.mono fun _ _ h=>h),(HBW.out _ _).trans (HB3.out.mono (HBW.out _ _).size),rfl⟩
    |true=>
      have HR:=yH (show kidsT (walkT ns f) ns n 0 n.kids (next+1)=R from hR2);clear hR2;go_enter Tryz.func71,Tryz.ntmps71
      go_wp2_with (first
        |(go_at_call 116;refine(HFT.out _ (HBW.out _ _)).mono ?_;rintro e w2 ⟨rfl,hb2⟩;have hnb:=(hb2.block _ (gS.1 (HBB.out _ _)).1).trans (HBB.out _ _);have d0:=cell_plain hnb 0;have d1:=cell_plain hnb 1;have d2:=cell_plain hnb 2;have d3:=cell_plain hnb 3;have d4:=cell_plain hnb 4;have d5:=cell_plain hnb 5;have d6:=cell_plain hnb 6;have HB2:=yH hb2;have HNB2:=yH hnb;clear hb2 hnb)
        |(go_at_call 117;refine(HSP.out _ ((HBW.out _ _).trans (HB2.out.mono (HBW.out _ _).size))).mono ?_;rintro e w3 ⟨rfl,hb3⟩;have hnb:=(hb3.block _ (gS.1 HNB2.out).1).trans HNB2.out;have d2:=cell_plain hnb 2;have HB3:=yH (HB2.out.trans (hb3.mono HB2.out.size));have HNB3:=yH hnb;clear hb3 hnb))
      obtain⟨W1,hW1⟩:∃W1,((w.setCell ⟨X,1,none⟩ (.int .i64 ((next:Int)+1))).alloc (.cells #[.string so,.string sn,.slice kp KL kc,.slice wp WL wc,.slice pp PL pc,.slice ap AL ac,.slice rp RL rc] 41))=W1:=⟨_,rfl⟩;have HB3:=yH (show Below W1.heap.size W1 w3 from by rw[←hW1];exact HB3.out)
      have HW1:=yH (show Below w0.heap.size w0 W1∧Kept (fun b=>b=X) w W1∧W1.heap[X]? =some (.cells #[.slice (some ⟨b,o,none⟩) N nc,.int .i64 ((next+1:Nat):Int)] 114 (0,0))from by
        rw[←hW1]
        exact⟨HBW.out _ _,HKW.out _ _,HXW.out _ _⟩)
      have HST:=yH (show Below w0.heap.size w0 w3∧Kept (fun b=>b=X) w w3∧w3.heap[X]? =some (.cells #[.slice (some ⟨b,o,none⟩) N nc,.int .i64 ((next+1:Nat):Int)] 114 (0,0))∧w3.heap[w.heap.size]? =some (.cells #[.string so,.string sn,.slice kp KL kc,.slice wp WL wc,.slice pp PL pc,.slice ap AL ac,.slice rp RL rc] 41)from
        ⟨HW1.out.1.trans (HB3.out.mono HW1.out.1.size),HW1.out.2.1.on (Kept.of_below HB3.out|>.mono fun _ _ h=>h),(HB3.out.block X (gS.1 HW1.out.2.2).1).trans HW1.out.2.2,HNB3.out⟩)
      clear hW1 HW1 HBW HKW HXW HBB e0 e1 e2 e3 e4 e5 e6 c0 c1 c01 fz hnl hni hlt0 hn1 d0 d1 d2 d3 d4 d5 d6 HB2 HNB2 HB3 HNB3 HFT HSP
      go_loopw [48] (fun i wr=> ∃j nx,j≤KL∧i= .int .i64 (j:Int)∧next+1≤nx∧Below w0.heap.size w0 wr∧Kept (fun b=>b=X) w wr∧wr.heap[X]? =some (.cells #[.slice (some ⟨b,o,none⟩) N nc,.int .i64 (nx:Int)] 114 (0,0))∧wr.heap[w.heap.size]? =some (.cells #[.string so,.string sn,.slice kp KL kc,.slice wp WL wc,.slice pp PL pc,.slice ap AL ac,.slice rp RL rc] 41)∧kidsT (walkT ns f) ns n j (n.kids.drop j) nx=R) (fun i _=>KL-(intOf i).toNat)
      case atStart=>exact⟨0,next+1,Nat.zero_le _,rfl,Nat.le_refl _,HST.out.1,HST.out.2.1,HST.out.2.2.1,HST.out.2.2.2,HR.out⟩
      case round=>
        obtain⟨j,nx,hj,rfl,hnx,hb,hkp,hhx,hhn,hsd⟩:=hrel
        by_cases hlt:j<KL
        · obtain⟨kd,hkd⟩:∃x,n.kids[j]? =some x:=⟨_,List.getElem?_eq_getElem (by rw[HNN.out.2];exact hlt)⟩
          obtain⟨kb,ko,rfl⟩:=SlAt.ptr HK0.out hkd;obtain⟨cs,rfl,hc⟩:=SlAt.cell HK0.out rfl hkd
          have q0:wr.cell? ⟨kb,ko+j,none⟩=some (.int .i64 kd):=by
            have:=cell_below (hc 0 _ rfl) hb
            rwa [show ko+j*1+0=ko+j by omega]at this
          have hj0:(j:Int)<(KL:Int):=(by omega);rw[drop_get hkd,kidsT]at hsd;obtain⟨M,hM⟩:∃M,walkT ns f kd nx=M:=⟨_,rfl⟩;have hih:=HIH.out kd nx wr.drew (hb.trans (below_drew1 _ _)) hhx (by rw[HNN.out.1];have:=HM.out.2.2.2.1;omega);rw[hM]at hih hsd;have HI:=yH (show Calls Tryz.prog 71 #[.pointer (some ⟨X,0,none⟩),.int .i64 kd] wr.drew fun e w'=>Kept (fun b=>b=X) wr w'∧Below w0.heap.size w0 w'∧NodeEnd X (.slice (some ⟨b,o,none⟩) N nc) M e w' from hih.mono fun e w' ⟨h1,h2,h3⟩=>⟨(Kept.of_below (below_drew1 _ _)|>.mono (fun _ _ h=>h)).on h1,h2,h3⟩);have HWR:=yH (And.intro hb (And.intro hkp (And.intro hhx (And.intro hhn (And.intro hnx hlt)))));have HMM:=yH hM;have HSD:=yH hsd;clear hc hkd hih hb hkp hhx hhn hnx hlt hj hM hsd
          cases M with
          |none=>
            have HRn:=yH (show none=R from HSD.out);go_wp2_with fail;refine wp_region_held_drew (S:=(fun _=>True)) (by kernel_rfl) ?_ (fun hHeld=> ?_)
            · exact trivial
            refine tkW 0 53 rfl rfl ?_ ?_ ?_;rotate_left
            · intro _ _;go_simp<;>(with_reducible rfl)
            simp only[pS];refine tkW 1 54 rfl rfl ?_ ?_ ?_;rotate_left
            · intro _ _;go_simp<;>(with_reducible rfl)
            simp only[pS];refine cW 2 rfl (fun K hK=> ?_);go_simp
            go_wp2_with ((go_at_call 71;refine HI.out.mono ?_;rintro e w4 ⟨h1,h2,rfl⟩;have HE:=yH (And.intro h1 h2);clear h1 h2))
            refine hK.out _ _ ?_ (fun hHeld=> ?_)
            · exact trivial
            clear hK K;refine tkW 3 56 rfl rfl ?_ ?_ ?_;rotate_left
            · intro _ _;go_simp<;>(with_reducible rfl)
            simp only[pS];refine tkW 4 57 rfl rfl ?_ ?_ ?_;rotate_left
            · intro _ _;go_simp<;>(with_reducible rfl)
            simp only[pS];refine takeN (i:=5) (k:=58) rfl (by kernel_rfl) (by kernel_rfl) (by kernel_rfl) (by kernel_rfl) (fun _ _ _ h=>h) (by rfl) (by assumption) ?_;simp only[pS];refine takeN (i:=6) (k:=59) rfl (by kernel_rfl) (by kernel_rfl) (by kernel_rfl) (by kernel_rfl) (fun _ _ _ h=>h) (by rfl) (by assumption) ?_;simp only[pS];refine takeN (i:=7) (k:=60) rfl (by kernel_rfl) (by kernel_rfl) (by kernel_rfl) (by kernel_rfl) (fun _ _ _ h=>h) (by rfl) (by assumption) ?_;simp only[pS];refine takeN (i:=8) (k:=61) rfl (by kernel_rfl) (by kernel_rfl) (by kernel_rfl) (by kernel_rfl) (fun _ _ _ h=>h) (by rfl) (by assumption) ?_;simp only[pS];refine takeN (i:=9) (k:=62) rfl (by kernel_rfl) (by kernel_rfl) (by kernel_rfl) (by kernel_rfl) (fun _ _ _ h=>h) (by rfl) (by assumption) ?_;simp only[pS];refine takeN (i:=10) (k:=63) rfl (by kernel_rfl) (by kernel_rfl) (by kernel_rfl) (by kernel_rfl) (fun _ _ _ h=>h) (by rfl) (by assumption) ?_;simp only[pS];refine takeN (i:=11) (k:=64) rfl (by kernel_rfl) (by kernel_rfl) (by kernel_rfl) (by kernel_rfl) (fun _ _ _ h=>h) (by rfl) (by assumption) ?_;simp only[pS];refine takeN (i:=12) (k:=65) rfl (by kernel_rfl) (by kernel_rfl) (by kernel_rfl) (by kernel_rfl) (fun _ _ _ h=>h) (by rfl) (by assumption) ?_;simp only[pS];refine takeN (i:=13) (k:=66) rfl (by kernel_rfl) (by kernel_rfl) (by kernel_rfl) (by kernel_rfl) (fun _ _ _ h=>h) (by rfl) (by assumption) ?_;simp only[pS];refine takeN (i:=14) (k:=67) rfl (by kernel_rfl) (by kernel_rfl) (by kernel_rfl) (by kernel_rfl) (fun _ _ _ h=>h) (by rfl) (by assumption) ?_;simp only[pS];refine takeN (i:=15) (k:=68) rfl (by kernel_rfl) (by kernel_rfl) (by kernel_rfl) (by kernel_rfl) (fun _ _ _ h=>h) (by rfl) (by assumption) ?_;simp only[pS];refine tkW 16 69 rfl rfl ?_ ?_ ?_;rotate_left
            · intro _ _;go_simp<;>(with_reducible rfl)
            simp only[pS];refine wpAnyH_done (by kernel_rfl) ?_ _;go_wp2_with fail;go_ret;exact⟨HWR.out.2.1.on HE.out.1,HE.out.2,(show NodeEnd _ _ R _ _ from by rw[←HRn.out];exact rfl)⟩
          |some m=>
            obtain⟨hm1,hm2,hm3⟩:=walk_more f kd nx m HMM.out;subst hm2;obtain⟨kn,hkn⟩:∃x,ns[nx]? =some x:=⟨_,List.getElem?_eq_getElem hm3⟩;obtain⟨b',o',hbo,kp',wp',pp',ap',rp',kc',wc',pc',ac',rc', -, -, -, -, -,k0,k1,k2,k3,k4,k5,k6⟩:=NsAt.node HNS.out hkn
            obtain⟨rfl,rfl⟩:b=b'∧o=o':=by
              simp only[Option.some.injEq,Addr.mk.injEq,and_true]at hbo;exact hbo
            obtain⟨so',hso⟩:∃s,T kn.op=s:=⟨_,rfl⟩;obtain⟨sn',hsn⟩:∃s,T kn.name=s:=⟨_,rfl⟩;obtain⟨KL',hKL⟩:∃s,kn.kids.length=s:=⟨_,rfl⟩;obtain⟨WL',hWL⟩:∃s,kn.words.length=s:=⟨_,rfl⟩;obtain⟨PL',hPL⟩:∃s,kn.pats.length=s:=⟨_,rfl⟩;obtain⟨AL',hAL⟩:∃s,kn.assigns.length=s:=⟨_,rfl⟩;obtain⟨RL',hRL⟩:∃s,kn.redirs.length=s:=⟨_,rfl⟩;rw[hso]at k0;rw[hsn]at k1;rw[hKL]at k2;rw[hWL]at k3;rw[hPL]at k4;rw[hAL]at k5;rw[hRL]at k6;obtain⟨TB,hTB⟩:∃TB,takesT n j kn=TB:=⟨_,rfl⟩;have HTB:=yH (HTK.out kn j so' sn' kp' wp' pp' ap' rp' KL' WL' PL' AL' RL' kc' wc' pc' ac' rc' TB hso hsn hRL hTB)
            have HSE:=yH (show(if TB then kidsT (walkT ns f) ns n (j+1) (n.kids.drop (j+1)) m else none)=R from by
              have:=HSD.out;simp only[show ((nx:Int).toNat)=nx from rfl,hkn,hTB]at this
              exact this)
            have HKS:=yH (show ∀W:World,Below w0.heap.size w0 W→W.heap[w.heap.size]? =some (.cells #[.string so,.string sn,.slice (some ⟨kb,ko,none⟩) KL kc,.slice wp WL wc,.slice pp PL pc,.slice ap AL ac,.slice rp RL rc] 41)→(∃u,W.heap[X]? =some (.cells #[.slice (some ⟨b,o,none⟩) N nc,u] 114 (0,0)))→W.cell? ⟨w.heap.size,0,none⟩=some (.string so)∧W.cell? ⟨w.heap.size,1,none⟩=some (.string sn)∧W.cell? ⟨w.heap.size,2,none⟩=some (.slice (some ⟨kb,ko,none⟩) KL kc)∧W.cell? ⟨w.heap.size,3,none⟩=some (.slice wp WL wc)∧W.cell? ⟨w.heap.size,4,none⟩=some (.slice pp PL pc)∧W.cell? ⟨w.heap.size,5,none⟩=some (.slice ap AL ac)∧W.cell? ⟨w.heap.size,6,none⟩=some (.slice rp RL rc)∧W.cell? ⟨X,0,none⟩=some (.slice (some ⟨b,o,none⟩) N nc)∧W.cell? ⟨b,o+nx*7,none⟩=some (.string so')∧W.cell? ⟨b,o+nx*7+1,none⟩=some (.string sn')∧W.cell? ⟨b,o+nx*7+2,none⟩=some (.slice kp' KL' kc')∧W.cell? ⟨b,o+nx*7+3,none⟩=some (.slice wp' WL' wc')∧W.cell? ⟨b,o+nx*7+4,none⟩=some (.slice pp' PL' pc')∧W.cell? ⟨b,o+nx*7+5,none⟩=some (.slice ap' AL' ac')∧W.cell? ⟨b,o+nx*7+6,none⟩=some (.slice rp' RL' rc')from fun W hb hn ⟨u,hx⟩=>
              ⟨cell_plain hn 0,cell_plain hn 1,cell_plain hn 2,cell_plain hn 3,cell_plain hn 4,cell_plain hn 5,cell_plain hn 6,cell_plain hx 0,cell_below k0 hb,cell_below k1 hb,cell_below k2 hb,cell_below k3 hb,cell_below k4 hb,cell_below k5 hb,cell_below k6 hb⟩)
            have HS1:=yH (HKS.out wr HWR.out.1 HWR.out.2.2.2.1 ⟨_,HWR.out.2.2.1⟩);have hwX:w.heap.size≠X:=(by have:=HM.out.1;omega);have HWX:=yH hwX;have hnN:(nx:Int)<(N:Int):=(by have:=HNN.out.1;omega);have HMX:=yH hm1;clear hm1 hm3 hkn hbo hso hsn hKL hWL hPL hAL hRL hTB k0 k1 k2 k3 k4 k5 k6 hwX;go_wp2_with fail;refine wp_region_held_drew (S:=(fun W=>W.cell? ⟨w.heap.size,0,none⟩=some (.string so)∧W.cell? ⟨w.heap.size,1,none⟩=some (.string sn)∧W.cell? ⟨w.heap.size,2,none⟩=some (.slice (some ⟨kb,ko,none⟩) KL kc)∧W.cell? ⟨w.heap.size,3,none⟩=some (.slice wp WL wc)∧W.cell? ⟨w.heap.size,4,none⟩=some (.slice pp PL pc)∧W.cell? ⟨w.heap.size,5,none⟩=some (.slice ap AL ac)∧W.cell? ⟨w.heap.size,6,none⟩=some (.slice rp RL rc)∧W.cell? ⟨X,0,none⟩=some (.slice (some ⟨b,o,none⟩) N nc)∧W.cell? ⟨b,o+nx*7,none⟩=some (.string so')∧W.cell? ⟨b,o+nx*7+1,none⟩=some (.string sn')∧W.cell? ⟨b,o+nx*7+2,none⟩=some (.slice kp' KL' kc')∧W.cell? ⟨b,o+nx*7+3,none⟩=some (.slice wp' WL' wc')∧W.cell? ⟨b,o+nx*7+4,none⟩=some (.slice pp' PL' pc')∧W.cell? ⟨b,o+nx*7+5,none⟩=some (.slice ap' AL' ac')∧W.cell? ⟨b,o+nx*7+6,none⟩=some (.slice rp' RL' rc'))) (by kernel_rfl) ?_ (fun hHeld=> ?_)
            · exact HS1.out
            refine tkW 0 53 rfl rfl ?_ ?_ ?_;rotate_left
            · intro _ _;go_simp<;>(with_reducible rfl)
            simp only[pS];refine tkW 1 54 rfl rfl ?_ ?_ ?_;rotate_left
            · intro _ _;go_simp<;>(with_reducible rfl)
            simp only[pS];refine cW 2 rfl (fun K hK=> ?_);go_simp
            go_wp2_with ((go_at_call 71;refine HI.out.mono ?_;rintro e w4 ⟨h1,h2,rfl,h4⟩;have hh:=h1.heap HWR.out.2.2.2.1 HWX.out;have HS4:=yH (HKS.out w4 h2 hh ⟨_,h4⟩);have HE:=yH (And.intro h2 (And.intro h1 (And.intro h4 hh)));clear h1 h2 h4 hh))
            refine hK.out _ _ ?_ (fun hHeld=> ?_)
            · exact HS4.out
            clear hK K;refine tkW 3 56 rfl rfl ?_ ?_ ?_;rotate_left
            · intro _ _;go_simp<;>(with_reducible rfl)
            simp only[pS];refine tkW 4 57 rfl rfl ?_ ?_ ?_;rotate_left
            · intro _ _;go_simp<;>(with_reducible rfl)
            simp only[pS];refine tkW 5 58 rfl rfl ?_ ?_ ?_;rotate_left
            · intro _ _;go_simp<;>(with_reducible rfl)
            simp only[pS];refine tkW 6 59 rfl rfl ?_ ?_ ?_;rotate_left
            · intro _ _;go_simp<;>(with_reducible rfl)
            simp only[pS];refine tkW 7 60 rfl rfl ?_ ?_ ?_;rotate_left
            · intro _ _;go_simp<;>(with_reducible rfl)
            simp only[pS];refine tkW 8 61 rfl rfl ?_ ?_ ?_;rotate_left
            · intro _ _;go_simp<;>(with_reducible rfl)
            simp only[pS];refine tkW 9 62 rfl rfl ?_ ?_ ?_;rotate_left
            · intro _ _;go_simp<;>(with_reducible rfl)
            simp only[pS];refine tkW 10 63 rfl rfl ?_ ?_ ?_;rotate_left
            · intro _ _;go_simp<;>(with_reducible rfl)
            simp only[pS];refine tkW 11 64 rfl rfl ?_ ?_ ?_;rotate_left
            · intro _ _;go_simp<;>(with_reducible rfl)
            simp only[pS];refine tkW 12 65 rfl rfl ?_ ?_ ?_;rotate_left
            · intro _ _;go_simp<;>(with_reducible rfl)
            simp only[pS];refine tkW 13 66 rfl rfl ?_ ?_ ?_;rotate_left
            · intro _ _;go_simp<;>(with_reducible rfl)
            simp only[pS];refine cW 14 rfl (fun K hK=> ?_);go_simp
            go_wp2_with ((go_at_call 118;refine(HTB.out _).mono ?_;rintro e w5 ⟨rfl,hb5⟩;have hh:=(hb5.block _ (gS.1 HE.out.2.2.2).1).trans HE.out.2.2.2;have hx5:=(hb5.block _ (gS.1 HE.out.2.2.1).1).trans HE.out.2.2.1;have h25:=HE.out.1.trans (hb5.mono HE.out.1.size);have HS5:=yH (HKS.out w5 h25 hh ⟨_,hx5⟩);have HE5:=yH (And.intro h25 (And.intro (HE.out.2.1.on (Kept.of_below hb5|>.mono fun _ _ h=>h)) (And.intro hx5 hh)));clear hb5 hh hx5 h25))
            refine hK.out _ _ ?_ (fun hHeld=> ?_)
            · exact HS5.out
            clear hK K;refine tkW 15 68 rfl rfl ?_ ?_ ?_;rotate_left
            · intro _ _;go_simp<;>(with_reducible rfl)
            simp only[pS];refine tkW 16 69 rfl rfl ?_ ?_ ?_;rotate_left
            · intro _ _;go_simp<;>(with_reducible rfl)
            simp only[pS];refine wpAnyH_done (by kernel_rfl) ?_ _
            cases TB with
            |true=>
              have HRn:=yH (show kidsT (walkT ns f) ns n (j+1) (n.kids.drop (j+1)) m=R from HSE.out);go_wp2_with fail;exact⟨⟨j+1,m,by have:=HWR.out.2.2.2.2.2;omega,by go_num,by have:=HWR.out.2.2.2.2.1;have:=HMX.out;omega,HE5.out.1,HWR.out.2.1.on HE5.out.2.1,HE5.out.2.2.1,HE5.out.2.2.2,HRn.out⟩,by have:=HWR.out.2.2.2.2.2;simp[intOf];omega⟩
            |false=>
              have HRn:=yH (show none=R from HSE.out);go_wp2_with fail;go_ret;exact⟨HWR.out.2.1.on HE5.out.2.1,HE5.out.1,(show NodeEnd _ _ R _ _ from by rw[←HRn.out];exact rfl)⟩
        · obtain rfl:j=KL:=by omega
          have hj0:¬(j:Int)<(j:Int):=(by omega);rw[List.drop_of_length_le (by rw[HNN.out.2];exact Nat.le_refl _),kidsT]at hsd;have HE:=yH (And.intro hkp (And.intro hb hhx));clear hb hkp hhx hhn hnx hlt hj;have HRn:=yH hsd;clear hsd;go_wp2_with fail;go_ret;exact⟨HE.out.1,HE.out.2.1,(show NodeEnd _ _ R _ _ from by rw[←HRn.out];exact⟨rfl,HE.out.2.2⟩)⟩
theorem node_any {w0:World} {X:Nat} {np:Option Addr} {nc:Nat} {ns:List Nd} (hNs:NsAt w0 (.slice np ns.length nc) ns) (hS:Shapes w0) (hsm:∀n∈ns,NSmall n) (hX:w0.heap.size≤X) (hfew:ns.length≤1000):∀f,NodeDo w0 X (.slice np ns.length nc) ns f
  |0=>fun _ _ _ hb hw hf=>node_stop (.inr (by omega)) hb hw
  |f+1=>node_next hNs hS hsm hX hfew (node_any hNs hS hsm hX hfew f)
end Go.Proofs.YtcpmjkefbjbhpaaGreatDoor
