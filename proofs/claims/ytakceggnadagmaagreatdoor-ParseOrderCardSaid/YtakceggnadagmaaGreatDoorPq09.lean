/-
  Proved: contracts of functions, plain facts. Conditions: as each says.
-/
import Derived.Test.YtakceggnadagmaaGreatDoorPq08
namespace Go.Proofs.YtakceggnadagmaaGreatDoor
open Go Go.RowKit GlyphMath LexMath TreeMath ParseMath
theorem pair_cel (s:ByteArray) (p:Option Addr) (n c:Nat):Cel 2 [.string s,.slice p n c]:=⟨rfl,fun v hv=>by
  simp only[List.mem_cons,List.not_mem_nil,or_false]at hv
  rcases hv with rfl|rfl<;>rfl⟩
theorem part_some {n:Nd} {S:PS} {a:List UInt8×List Pt} (h1:n.words= []) (h2:assignO S.hd.word=some a):ParseMath.partM n S=({ n with assigns:=n.assigns++ [a] },S.take):=by simp[ParseMath.partM,h1,h2]
theorem part_bad {n:Nd} {S:PS} (h1:n.words= []) (h2:assignO S.hd.word=none) (h3:n.assigns= []) (h4:reservedT S.tx=true):ParseMath.partM n S=(n,S.fail 2):=by simp[ParseMath.partM,h1,h2,h3,h4]
theorem part_more {n:Nd} {S:PS} (h1:n.words≠ []):ParseMath.partM n S=({ n with words:=n.words++ [S.word.1] },S.word.2):=by simp[ParseMath.partM,pushWord,h1]
theorem part_first {n:Nd} {S:PS} (h1:n.words= []) (h2:assignO S.hd.word=none) (h3:n.assigns≠ []∨reservedT S.tx=false):ParseMath.partM n S=({ n with words:=n.words++ [S.word.1] },S.word.2):=by
  rcases h3 with h3|h3<;>simp[ParseMath.partM,pushWord,h1,h2,h3]
set_option maxHeartbeats 16000000 in
set_option maxRecDepth 10000 in
theorem ppart_any {w0 w wr:World} {X Y:Nat} {n:Nd} {V:Sv} {S:PS} (hX:X<w.heap.size) (hX0:w0.heap.size≤X) (h:SiO w0 w wr X Y n V 4002 S) (hw:S.isWord=true):
    Calls Tryz.prog 190 #[.pointer (some ⟨X,0,none⟩),.pointer (some ⟨Y,0,none⟩)] wr fun e w'=>e= .returned (.tuple #[])∧∃V',SiO w0 w w' X Y (ParseMath.partM n S).1 V' 4002 (ParseMath.partM n S).2:=by
  obtain⟨pw,cw,cssw,Fw,pa,ca,cssa,Fa,pr,cr,cssr,Fr⟩:=V;have HX:=yH (And.intro hX0 hX);have HL:=yH h;have HFW:=yH (word_lt h.box.pr.good hw);have HFT:=yH (take_lt h.box.pr.good (isWord_ne hw))
  have HMID:=yH (show wordT S.hd.word=true∧Small S.hd.word∧S.hd.word.length≤4000 from by
    have hk:S.hd.kind=1:=by simpa [PS.isWord]using hw
    rcases h.box.pr.good.hd with ⟨h1, -⟩|⟨h1, -⟩
    · rw[h1.kind]at hk;cases hk
    · rcases h1.is with h2|h2
      · exact⟨h2.2.2.1,h2.2.2.2.1,h2.2.2.2.2⟩
      · rw[h2.1]at hk;cases hk)
  have HNX:=yH (fun W (hW:Pr w0 W X S)=>pnext2_any hW);have HNXT:=yH (fun W (hW:Pr w0 W X S)=>pnext_any hW);have HWD:=yH (fun W (hW:Pr w0 W X S)=>pword_any hW);obtain⟨y,hy⟩:∃y,S.word.1=y:=⟨_,rfl⟩;have HY:=yH hy;rw[hy]at HWD;obtain⟨yl,hyl⟩:∃x,y.length=x:=⟨_,rfl⟩;rw[hyl]at HWD;obtain⟨nw,hnw⟩:∃x,n.words.length=x:=⟨_,rfl⟩;have HNW:=yH hnw;obtain⟨na,hna⟩:∃x,n.assigns.length=x:=⟨_,rfl⟩;have HNA:=yH hna;have c3:wr.cell? ⟨Y,3,none⟩=some (.slice pw nw cw):=(by rw[cell_plain h.box.box,←hnw];rfl);clear hX hX0 h hw hy hyl hna
  by_cases h1:n.words= []
  case neg=>
    have HM:=yH (part_more (S:=S) h1);have hn1:¬nw=0:=fun e=>h1 (List.length_eq_zero_iff.1 (hnw.trans e))
    have hn0:((nw:Int)==0)=false:=by
      have:¬(nw:Int)=0:=by omega
      simpa using this
    clear h1 hnw hn1;go_enter Tryz.func190,Tryz.ntmps190;go_wp2_with fail;refine regionL (S:=(fun W=>W.cell? ⟨Y,3,none⟩=some (.slice pw nw cw))) (L:=11) (by kernel_rfl) ?_ (fun hHeld=> ?_)
    · exact(by rw[cell_plain (HL.out.new HX.out.2 (below_drewA wr)).box.box,←HNW.out];rfl)
    refine tkL 0 46 rfl rfl ?_ ?_ ?_;rotate_left
    · intro _ _;go_simp<;>(with_reducible rfl)
    simp only[pS];refine tkL 1 47 rfl rfl ?_ ?_ ?_;rotate_left
    · intro _ _;go_simp<;>(with_reducible rfl)
    simp only[pS];refine tkL 2 48 rfl rfl ?_ ?_ ?_;rotate_left
    · intro _ _;go_simp<;>(with_reducible rfl)
    simp only[pS];refine tkL 3 49 rfl rfl ?_ ?_ ?_;rotate_left
    · intro _ _;go_simp<;>(with_reducible rfl)
    simp only[pS];refine tkL 4 50 rfl rfl ?_ ?_ ?_;rotate_left
    · intro _ _;go_simp<;>(with_reducible rfl)
    simp only[pS];refine tkL 5 51 rfl rfl ?_ ?_ ?_;rotate_left
    · intro _ _;go_simp<;>(with_reducible rfl)
    simp only[pS];refine nxL 6 rfl (fun K hK=> ?_);go_simp
    go_wp2_with (go_at_call 191;refine(HWD.out _ (HL.out.new HX.out.2 (below_drewA wr)).box.pr).mono ?_;rintro en w20 ⟨p5,k5,rfl,hu,hs⟩;have HS5:=yH (And.intro hu ((HL.out.new HX.out.2 (below_drewA wr)).step (M':=4001) HX.out.2 hs (by decide) (by have:=HFW.out;omega)));clear hs hu)
    refine hK.out _ _ ?_ ?_
    · exact .inr (by rw[cell_plain HS5.out.2.box.box,←HNW.out];rfl)
    clear hK K;refine nxL 7 rfl (fun K hK=> ?_);refine wp_one elWord (.tmp 52) rfl _ [.slice p5 yl k5] rfl (slice_cel _ _ _) rfl ?_;refine hK.out _ _ ?_ ?_
    · exact .inr (by rw[cell_plain (HS5.out.2.new HX.out.2 (below_new w20 _)).box.box,←HNW.out];rfl)
    clear hK K;simp only[Act.put,List.getElem_toArray,List.getElem_cons_succ,List.getElem_cons_zero,pS];refine nxL 8 rfl (fun K hK=> ?_);refine wp_push elWord (.tmp 50) (.tmp 53) rfl HS5.out.2.roww (slice_cel _ _ _) (word_new (C:=wr.heap.size) HS5.out.1) HL.out.box.lt (fun k hk=>(HL.out.roww.lt k (.inr hk)).2) (by have:=HS5.out.2.feww;omega) (by rw[HNW.out];rfl) rfl HS5.out.2.box.lt ?_;intro p6 c6 F6 w21 hr6 hF6 hat6 hk6;have HS6:=yH (And.intro hr6 (And.intro hF6 (And.intro hat6 hk6)));have HB6:=yH (HS5.out.2.box.turn HX.out.2 HX.out.1 hk6 (fun k hk=>(HS5.out.2.roww.lt k (.inr hk)).1));clear hr6 hF6 hat6 hk6;refine hK.out _ _ ?_ ?_
    · exact .inr (by rw[cell_plain HB6.out.box,←HNW.out];rfl)
    clear hK K;simp only[Act.put,List.getElem_toArray,List.getElem_cons_succ,List.getElem_cons_zero,pS];refine nxL 9 rfl (fun K hK=> ?_);go_simp;refine hK.out _ _ ?_ ?_
    · exact .inr (by rw[cell_plain HB6.out.box,←HNW.out];rfl)
    clear hK K;refine nxL 10 rfl (fun K hK=> ?_);go_simp;refine hK.out _ _ ?_ ?_
    · exact .inr (by rw[cell_plain HB6.out.box,←HNW.out];rfl)
    clear hK K;refine nxL 11 rfl (fun K hK=> ?_);have d3:w21.cell? ⟨Y,3,none⟩=some (.slice pw nw cw):=(by rw[cell_plain HB6.out.box,←HNW.out];rfl);have e3:w21.frozen? ⟨Y,3,none⟩=false:=frozen_plain HB6.out.box 3;go_simp;refine hK.out _ _ ?_ ?_
    · exact .inl (by kernel_rfl)
    clear hK K;refine doneL (by kernel_rfl) ?_ _;have HP:=yH (HS5.out.2.pushw (by decide) HX.out.2 HX.out.1 (fun k hk=>(HL.out.rowa.lt k (.inr hk)).2) (fun k hk=>(HL.out.rowr.lt k (.inr hk)).2) HS6.out.1 HS6.out.2.1 HS6.out.2.2.1 HS6.out.2.2.2);go_wp2_with fail
    go_end0
    refine⟨rfl,?_⟩;rw[HM.out,HY.out];exact⟨_,HP.out⟩
  case pos=>
    have H1:=yH h1;obtain rfl:nw=0:=(by rw[←hnw,h1];rfl);clear hnw;obtain⟨ps,hps⟩:∃ps,S.hd.word=ps:=⟨_,rfl⟩;have HPS:=yH hps;rw[hps]at HMID;have HASG:=yH (fun W (hb:Below w0.heap.size w0 W) p k (hu:PsAt w0 (.slice p ps.length k) ps) (hk:ps.length≤k)=>passign_any hb ps p k hu hk (fun e=>by have:=HMID.out.1;rw[e]at this;cases this) HMID.out.2.1 (by have:=HMID.out.2.2;omega));have HTXT:=yH (fun W (hW:Below w0.heap.size w0 W) p k (hu:PsAt w0 (.slice p S.hd.word.length k) S.hd.word)=>text_any hW S.hd p k hu);unfold tkV at HNX;obtain⟨kd,hkd⟩:∃x,S.hd.kind=x:=⟨_,rfl⟩;obtain⟨tx,htx⟩:∃x,T S.hd.text=x:=⟨_,rfl⟩;obtain⟨wl,hwl⟩:∃x,ps.length=x:=⟨_,rfl⟩;obtain⟨at_,hat⟩:∃x:Int,(S.hd.at_:Int)=x:=⟨_,rfl⟩;simp only[hps,hkd,htx,hwl,hat]at HNX HASG;clear hps hkd htx hwl hat h1
    cases hA:assignO ps with
    |some a=>
      rw[hA]at HASG;have HM:=yH (part_some H1.out (by rw[HPS.out];exact hA));clear hA;obtain⟨ta,hta⟩:∃x,T a.1=x:=⟨_,rfl⟩;have HTA:=yH hta;clear hta;go_enter Tryz.func190,Tryz.ntmps190
      go_wp2_with (first
        |(go_at_call 45;refine(HNX.out _ HL.out.box.pr).mono ?_;rintro en w1 ⟨p,k,rfl,hu,hb1⟩;have qf:=tok_f2 kd at_ tx p wl k;have HL1:=yH (HL.out.new HX.out.2 hb1);have HU1:=yH hu;clear hb1 hu)
        |(go_at_call 197;refine(HASG.out w1 HL1.out.box.pr.below p k HU1.out.1 HU1.out.2).mono ?_;rintro en w3 ⟨hb3,pz,nz,cz,rfl,hnew⟩;have HL3:=yH (HL1.out.new HX.out.2 hb3);have HN3:=yH (And.intro hnew hb3.size);clear hb3 hnew;rw[HTA.out]))
      obtain⟨w4,hw4⟩:∃w4,w4=w3.alloc (.cells #[.string ta,.slice pz nz cz] 105):=⟨_,rfl⟩;rw[←hw4];have HL4:=yH (show SiO w0 w w4 X Y n ⟨pw,cw,cssw,Fw,pa,ca,cssa,Fa,pr,cr,cssr,Fr⟩ 4002 S from by rw[hw4];exact HL3.out.new HX.out.2 (below_new _ _));have HZ4:=yH (show w4.heap[w3.heap.size]? =some (.cells #[.string ta,.slice pz nz cz] 105 (0,0))∧w4.heap.size=w3.heap.size+1∧NewAt w0 w4 w1.heap.size (fun W=>PsAt W (.slice pz nz cz) a.2)from by rw[hw4];exact⟨heap_alloc_new w3 _,by simp,HN3.out.1.kept (D:=fun _=>False) (Kept.of_below (below_new w3 _)) (fun _ _ _ h=>h)⟩);clear hw4;refine regionL (S:=(fun W=>W.cell? ⟨Y,5,none⟩=some (.slice pa na ca)∧W.heap[w3.heap.size]? =some (.cells #[.string ta,.slice pz nz cz] 105 (0,0)))) (L:=10) (by kernel_rfl) ?_ (fun hHeld=> ?_)
      · exact⟨by rw[cell_plain (HL4.out.new HX.out.2 (below_drewA w4)).box.box,←HNA.out];rfl,HZ4.out.1⟩
      refine tkL 0 20 rfl rfl ?_ ?_ ?_;rotate_left
      · intro _ _;go_simp<;>(with_reducible rfl)
      simp only[pS];refine tkL 1 21 rfl rfl ?_ ?_ ?_;rotate_left
      · intro _ _;go_simp<;>(with_reducible rfl)
      simp only[pS];refine tkL 2 22 rfl rfl ?_ ?_ ?_;rotate_left
      · intro _ _;go_simp<;>(with_reducible rfl)
      simp only[pS];refine tkL 3 23 rfl rfl ?_ ?_ ?_;rotate_left
      · intro _ _;go_simp<;>(with_reducible rfl)
      simp only[pS];refine tkL 4 24 rfl rfl ?_ ?_ ?_;rotate_left
      · intro _ _;go_simp<;>(with_reducible rfl)
      simp only[pS];refine takeL (i:=5) (k:=25) (v:= .agg #[.string ta,.slice pz nz cz]) rfl (by kernel_rfl) (by kernel_rfl) (by kernel_rfl) (by kernel_rfl) (fun _ _ _ h=>h) (by kernel_rfl) (by kernel_rfl) (by kernel_rfl) (by rfl) ?_ (by assumption) ?_
      · intro w hSw;exact exec_load_row _ 105 (.tmp 4) rfl w3.heap.size rfl 105 #[.string ta,.slice pz nz cz] (0,0) _ hSw.2 Tryz.underlying105 rfl assign_info
      simp only[pS];refine nxL 6 rfl (fun K hK=> ?_);refine wp_one elAssign (.tmp 25) rfl _ [.string ta,.slice pz nz cz] rfl (pair_cel _ _ _ _) rfl ?_;refine hK.out _ _ ?_ ?_
      · exact .inr ⟨by rw[cell_plain ((HL4.out.new HX.out.2 (below_drewA w4)).new HX.out.2 (below_new w4.drew _)).box.box,←HNA.out];rfl,(Below.heap_alloc w4.drew _ _ (gS.1 HZ4.out.1).1).trans HZ4.out.1⟩
      clear hK K;simp only[Act.put,List.getElem_toArray,List.getElem_cons_succ,List.getElem_cons_zero,pS];refine nxL 7 rfl (fun K hK=> ?_);refine wp_push elAssign (.tmp 24) (.tmp 26) rfl (HL4.out.new HX.out.2 (below_drewA w4)).rowa (pair_cel _ _ _ _) (y:=a) (C:=w1.heap.size) ((HZ4.out.2.2.kept (D:=fun _=>False) (Kept.of_below (below_drewA w4)) (fun _ _ _ h=>h)).imp fun W hW=>⟨_,by rw[←HTA.out];rfl,hW⟩) HL1.out.box.lt (fun k hk=>(HL1.out.rowa.lt k (.inr hk)).2) (by have:=HL4.out.fewa;omega) (by rw[HNA.out];rfl) rfl (HL4.out.new HX.out.2 (below_drewA w4)).box.lt ?_;intro p6 c6 F6 w21 hr6 hF6 hat6 hk6;have HS6:=yH (And.intro hr6 (And.intro hF6 (And.intro hat6 hk6)));have HB6:=yH ((HL4.out.new HX.out.2 (below_drewA w4)).box.turn HX.out.2 HX.out.1 hk6 (fun k hk=>(HL4.out.rowa.lt k (.inr hk)).1));have HZ6:=yH (hk6.heap (k:=w3.heap.size) HZ4.out.1 (fun e=>by have:=(HL3.out.rowa.lt _ (.inr e)).2;omega));clear hr6 hF6 hat6 hk6;refine hK.out _ _ ?_ ?_
      · exact .inr ⟨by rw[cell_plain HB6.out.box,←HNA.out];rfl,HZ6.out⟩
      clear hK K;simp only[Act.put,List.getElem_toArray,List.getElem_cons_succ,List.getElem_cons_zero,pS];refine nxL 8 rfl (fun K hK=> ?_);go_simp;refine hK.out _ _ ?_ ?_
      · exact .inr ⟨by rw[cell_plain HB6.out.box,←HNA.out];rfl,HZ6.out⟩
      clear hK K;refine nxL 9 rfl (fun K hK=> ?_);go_simp;refine hK.out _ _ ?_ ?_
      · exact .inr ⟨by rw[cell_plain HB6.out.box,←HNA.out];rfl,HZ6.out⟩
      clear hK K;refine nxL 10 rfl (fun K hK=> ?_);have d3:w21.cell? ⟨Y,5,none⟩=some (.slice pa na ca):=(by rw[cell_plain HB6.out.box,←HNA.out];rfl);have e3:w21.frozen? ⟨Y,5,none⟩=false:=frozen_plain HB6.out.box 5;go_simp;refine hK.out _ _ ?_ ?_
      · exact .inl (by kernel_rfl)
      clear hK K;refine doneL (by kernel_rfl) ?_ _;have HP:=yH ((HL4.out.new HX.out.2 (below_drewA w4)).pusha (by decide) HX.out.2 HX.out.1 (fun k hk=>(HL1.out.roww.lt k (.inr hk)).2) (fun k hk=>(HL1.out.rowr.lt k (.inr hk)).2) HS6.out.1 HS6.out.2.1 HS6.out.2.2.1 HS6.out.2.2.2);obtain⟨w22,hw22⟩:∃w22,w22=w21.setCell ⟨Y,5,none⟩ (.slice p6 (n.assigns.length+1) c6):=⟨_,rfl⟩;rw[←hw22]at HP ⊢;clear hw22
      go_wp2_with (go_at_call 105;refine(ptake_any HP.out.box.pr).mono ?_;rintro en w23 ⟨p9,k9,rfl, -,hs⟩;have HP9:=yH (HP.out.step (M':=4002) HX.out.2 hs (by decide) (by have:=HFT.out;omega));clear hs)
      (try simp only[Exit.inBlock,Exit.then])
      refine bodyPost_ret (results_none rfl _ _ _) rfl ?_;refine⟨rfl,?_⟩;rw[HM.out];exact⟨_,HP9.out⟩
    |none=>
      rw[hA]at HASG;have HA:=yH (show assignO S.hd.word=none from by rw[HPS.out];exact hA);clear hA;have HRS:=yH (fun W=>reserved_any (textK S.hd) W);have HPR:=yH HL.out.box.pr
      by_cases h3:n.assigns= []
      case neg=>
        have HM:=yH (part_first H1.out HA.out (.inl h3));have hna1:¬na=0:=fun e=>h3 (List.length_eq_zero_iff.1 (HNA.out.trans e))
        have hn0:((na:Int)==0)=false:=by
          have:¬(na:Int)=0:=by omega
          simpa using this
        clear h3 hna1;go_enter Tryz.func190,Tryz.ntmps190
        go_wp2_with (first
          |(go_at_call 45;(with_reducible refine(HNX.out _ HPR.out).mono ?_);rintro en w1 ⟨p,k,rfl,hu,hb1⟩;have qf:=tok_f2 kd at_ tx p wl k;have HL1:=yH (HL.out.new HX.out.2 hb1);have HU1:=yH hu;clear hb1 hu)
          |(go_at_call 197;refine(HASG.out w1 HL1.out.box.pr.below p k HU1.out.1 HU1.out.2).mono ?_;rintro en w3 ⟨hb3,rfl⟩;have HL3:=yH (HL1.out.new HX.out.2 hb3);have HL4:=yH (HL3.out.new HX.out.2 (below_new w3 (.cells #[.string ⟨#[]⟩,.slice none 0 0] 105)));have g5:∀o,(w3.alloc o).cell? ⟨Y,5,none⟩=some (.slice pa na ca):=cell_alloc (by rw[cell_plain HL3.out.box.box,←HNA.out];rfl);have HPR2:=yH HL4.out.box.pr;clear hb3))
        obtain⟨w6,hw6⟩:∃w6,w6=w3.alloc (.cells #[.string ⟨#[]⟩,.slice none 0 0] 105):=⟨_,rfl⟩;rw[←hw6]at HL4 ⊢;clear hw6;refine regionL (S:=(fun W=>W.cell? ⟨Y,3,none⟩=some (.slice pw 0 cw))) (L:=11) (by kernel_rfl) ?_ (fun hHeld=> ?_)
        · exact(by rw[cell_plain (HL4.out.new HX.out.2 (below_drewA w6)).box.box,←HNW.out];rfl)
        refine tkL 0 46 rfl rfl ?_ ?_ ?_;rotate_left
        · intro _ _;go_simp<;>(with_reducible rfl)
        simp only[pS];refine tkL 1 47 rfl rfl ?_ ?_ ?_;rotate_left
        · intro _ _;go_simp<;>(with_reducible rfl)
        simp only[pS];refine tkL 2 48 rfl rfl ?_ ?_ ?_;rotate_left
        · intro _ _;go_simp<;>(with_reducible rfl)
        simp only[pS];refine tkL 3 49 rfl rfl ?_ ?_ ?_;rotate_left
        · intro _ _;go_simp<;>(with_reducible rfl)
        simp only[pS];refine tkL 4 50 rfl rfl ?_ ?_ ?_;rotate_left
        · intro _ _;go_simp<;>(with_reducible rfl)
        simp only[pS];refine tkL 5 51 rfl rfl ?_ ?_ ?_;rotate_left
        · intro _ _;go_simp<;>(with_reducible rfl)
        simp only[pS];refine nxL 6 rfl (fun K hK=> ?_);go_simp
        go_wp2_with (go_at_call 191;refine(HWD.out _ (HL4.out.new HX.out.2 (below_drewA w6)).box.pr).mono ?_;rintro en w20 ⟨p5,k5,rfl,hu,hs⟩;have HS5:=yH (And.intro hu ((HL4.out.new HX.out.2 (below_drewA w6)).step (M':=4001) HX.out.2 hs (by decide) (by have:=HFW.out;omega)));clear hs hu)
        refine hK.out _ _ ?_ ?_
        · exact .inr (by rw[cell_plain HS5.out.2.box.box,←HNW.out];rfl)
        clear hK K;refine nxL 7 rfl (fun K hK=> ?_);refine wp_one elWord (.tmp 52) rfl _ [.slice p5 yl k5] rfl (slice_cel _ _ _) rfl ?_;refine hK.out _ _ ?_ ?_
        · exact .inr (by rw[cell_plain (HS5.out.2.new HX.out.2 (below_new w20 _)).box.box,←HNW.out];rfl)
        clear hK K;simp only[Act.put,List.getElem_toArray,List.getElem_cons_succ,List.getElem_cons_zero,pS];refine nxL 8 rfl (fun K hK=> ?_);refine wp_push elWord (.tmp 50) (.tmp 53) rfl HS5.out.2.roww (slice_cel _ _ _) (word_new (C:=w6.heap.size) HS5.out.1) HL4.out.box.lt (fun k hk=>(HL4.out.roww.lt k (.inr hk)).2) (by have:=HS5.out.2.feww;omega) (by rw[HNW.out];rfl) rfl HS5.out.2.box.lt ?_;intro p6 c6 F6 w21 hr6 hF6 hat6 hk6;have HS6:=yH (And.intro hr6 (And.intro hF6 (And.intro hat6 hk6)));have HB6:=yH (HS5.out.2.box.turn HX.out.2 HX.out.1 hk6 (fun k hk=>(HS5.out.2.roww.lt k (.inr hk)).1));clear hr6 hF6 hat6 hk6;refine hK.out _ _ ?_ ?_
        · exact .inr (by rw[cell_plain HB6.out.box,←HNW.out];rfl)
        clear hK K;simp only[Act.put,List.getElem_toArray,List.getElem_cons_succ,List.getElem_cons_zero,pS];refine nxL 9 rfl (fun K hK=> ?_);go_simp;refine hK.out _ _ ?_ ?_
        · exact .inr (by rw[cell_plain HB6.out.box,←HNW.out];rfl)
        clear hK K;refine nxL 10 rfl (fun K hK=> ?_);go_simp;refine hK.out _ _ ?_ ?_
        · exact .inr (by rw[cell_plain HB6.out.box,←HNW.out];rfl)
        clear hK K;refine nxL 11 rfl (fun K hK=> ?_);have d3:w21.cell? ⟨Y,3,none⟩=some (.slice pw 0 cw):=(by rw[cell_plain HB6.out.box,←HNW.out];rfl);have e3:w21.frozen? ⟨Y,3,none⟩=false:=frozen_plain HB6.out.box 3;go_simp;refine hK.out _ _ ?_ ?_
        · exact .inl (by kernel_rfl)
        clear hK K;refine doneL (by kernel_rfl) ?_ _;have HP:=yH (HS5.out.2.pushw (by decide) HX.out.2 HX.out.1 (fun k hk=>(HL4.out.rowa.lt k (.inr hk)).2) (fun k hk=>(HL4.out.rowr.lt k (.inr hk)).2) HS6.out.1 HS6.out.2.1 HS6.out.2.2.1 HS6.out.2.2.2);go_wp2_with fail
        go_end0
        refine⟨rfl,?_⟩;rw[HM.out,HY.out];exact⟨_,HP.out⟩
      case pos=>
        have H3:=yH h3;obtain rfl:na=0:=(by rw[←HNA.out,h3];rfl);clear h3
        cases hr:reservedT (textK S.hd)with
        |true=>
          rw[hr]at HRS;have HM:=yH (part_bad H1.out HA.out H3.out hr);clear hr;go_enter Tryz.func190,Tryz.ntmps190
          go_wp2_with (first
            |(go_at_call 45;(with_reducible refine(HNX.out _ HPR.out).mono ?_);rintro en w1 ⟨p,k,rfl,hu,hb1⟩;have qf:=tok_f2 kd at_ tx p wl k;have HL1:=yH (HL.out.new HX.out.2 hb1);have HU1:=yH hu;clear hb1 hu)
            |(go_at_call 197;refine(HASG.out w1 HL1.out.box.pr.below p k HU1.out.1 HU1.out.2).mono ?_;rintro en w3 ⟨hb3,rfl⟩;have HL3:=yH (HL1.out.new HX.out.2 hb3);have HL4:=yH (HL3.out.new HX.out.2 (below_new w3 (.cells #[.string ⟨#[]⟩,.slice none 0 0] 105)));have g5:∀o,(w3.alloc o).cell? ⟨Y,5,none⟩=some (.slice pa 0 ca):=cell_alloc (by rw[cell_plain HL3.out.box.box,←HNA.out];rfl);have HPR2:=yH HL4.out.box.pr;clear hb3)
            |(go_at_call 45;refine(HNXT.out _ HPR2.out).mono ?_;rintro en w5 ⟨p5,k5,rfl,hu,hb1⟩;have HL5:=yH (HL4.out.new HX.out.2 hb1);have HC5:=yH (HTXT.out _ HL5.out.box.pr.below p5 k5 hu);clear hb1 hu)
            |(go_at_call 104;refine HC5.out.mono ?_;rintro en w6 ⟨rfl,hb⟩;have HL6:=yH (HL5.out.new HX.out.2 hb);clear hb)
            |(go_at_call 180;refine(HRS.out _).mono ?_;rintro en w7 ⟨rfl,rfl⟩)
            |(go_at_call 46;refine(pfail_any HL6.out.box.pr 2 (by decide)).mono ?_;rintro en w8 ⟨rfl,hs⟩;have HL8:=yH (HL6.out.step (M':=4002) HX.out.2 hs (by decide) (by have:=(to_fail HL6.out.box.pr.good (e:=2) (by decide)).len;omega));clear hs))
          (try simp only[Exit.inBlock,Exit.then])
          refine bodyPost_ret (results_none rfl _ _ _) rfl ?_;refine⟨rfl,?_⟩;rw[HM.out];exact⟨_,HL8.out⟩
        |false=>
          rw[hr]at HRS;have HM:=yH (part_first H1.out HA.out (.inr hr));clear hr;go_enter Tryz.func190,Tryz.ntmps190
          go_wp2_with (first
            |(go_at_call 45;(with_reducible refine(HNX.out _ HPR.out).mono ?_);rintro en w1 ⟨p,k,rfl,hu,hb1⟩;have qf:=tok_f2 kd at_ tx p wl k;have HL1:=yH (HL.out.new HX.out.2 hb1);have HU1:=yH hu;clear hb1 hu)
            |(go_at_call 197;refine(HASG.out w1 HL1.out.box.pr.below p k HU1.out.1 HU1.out.2).mono ?_;rintro en w3 ⟨hb3,rfl⟩;have HL3:=yH (HL1.out.new HX.out.2 hb3);have HL4:=yH (HL3.out.new HX.out.2 (below_new w3 (.cells #[.string ⟨#[]⟩,.slice none 0 0] 105)));have g5:∀o,(w3.alloc o).cell? ⟨Y,5,none⟩=some (.slice pa 0 ca):=cell_alloc (by rw[cell_plain HL3.out.box.box,←HNA.out];rfl);have HPR2:=yH HL4.out.box.pr;clear hb3)
            |(go_at_call 45;refine(HNXT.out _ HPR2.out).mono ?_;rintro en w5 ⟨p5,k5,rfl,hu,hb1⟩;have HL5:=yH (HL4.out.new HX.out.2 hb1);have HC5:=yH (HTXT.out _ HL5.out.box.pr.below p5 k5 hu);clear hb1 hu)
            |(go_at_call 104;refine HC5.out.mono ?_;rintro en w6 ⟨rfl,hb⟩;have HL6:=yH (HL5.out.new HX.out.2 hb);clear hb)
            |(go_at_call 180;refine(HRS.out _).mono ?_;rintro en w7 ⟨rfl,rfl⟩))
          refine regionL (S:=(fun W=>W.cell? ⟨Y,3,none⟩=some (.slice pw 0 cw))) (L:=11) (by kernel_rfl) ?_ (fun hHeld=> ?_)
          · exact(by rw[cell_plain (HL6.out.new HX.out.2 (below_drewA w6)).box.box,←HNW.out];rfl)
          refine tkL 0 46 rfl rfl ?_ ?_ ?_;rotate_left
          · intro _ _;go_simp<;>(with_reducible rfl)
          simp only[pS];refine tkL 1 47 rfl rfl ?_ ?_ ?_;rotate_left
          · intro _ _;go_simp<;>(with_reducible rfl)
          simp only[pS];refine tkL 2 48 rfl rfl ?_ ?_ ?_;rotate_left
          · intro _ _;go_simp<;>(with_reducible rfl)
          simp only[pS];refine tkL 3 49 rfl rfl ?_ ?_ ?_;rotate_left
          · intro _ _;go_simp<;>(with_reducible rfl)
          simp only[pS];refine tkL 4 50 rfl rfl ?_ ?_ ?_;rotate_left
          · intro _ _;go_simp<;>(with_reducible rfl)
          simp only[pS];refine tkL 5 51 rfl rfl ?_ ?_ ?_;rotate_left
          · intro _ _;go_simp<;>(with_reducible rfl)
          simp only[pS];refine nxL 6 rfl (fun K hK=> ?_);go_simp
          go_wp2_with (go_at_call 191;refine(HWD.out _ (HL6.out.new HX.out.2 (below_drewA w6)).box.pr).mono ?_;rintro en w20 ⟨p5,k5,rfl,hu,hs⟩;have HS5:=yH (And.intro hu ((HL6.out.new HX.out.2 (below_drewA w6)).step (M':=4001) HX.out.2 hs (by decide) (by have:=HFW.out;omega)));clear hs hu)
          refine hK.out _ _ ?_ ?_
          · exact .inr (by rw[cell_plain HS5.out.2.box.box,←HNW.out];rfl)
          clear hK K;refine nxL 7 rfl (fun K hK=> ?_);refine wp_one elWord (.tmp 52) rfl _ [.slice p5 yl k5] rfl (slice_cel _ _ _) rfl ?_;refine hK.out _ _ ?_ ?_
          · exact .inr (by rw[cell_plain (HS5.out.2.new HX.out.2 (below_new w20 _)).box.box,←HNW.out];rfl)
          clear hK K;simp only[Act.put,List.getElem_toArray,List.getElem_cons_succ,List.getElem_cons_zero,pS];refine nxL 8 rfl (fun K hK=> ?_);refine wp_push elWord (.tmp 50) (.tmp 53) rfl HS5.out.2.roww (slice_cel _ _ _) (word_new (C:=w6.heap.size) HS5.out.1) HL6.out.box.lt (fun k hk=>(HL6.out.roww.lt k (.inr hk)).2) (by have:=HS5.out.2.feww;omega) (by rw[HNW.out];rfl) rfl HS5.out.2.box.lt ?_;intro p6 c6 F6 w21 hr6 hF6 hat6 hk6;have HS6:=yH (And.intro hr6 (And.intro hF6 (And.intro hat6 hk6)));have HB6:=yH (HS5.out.2.box.turn HX.out.2 HX.out.1 hk6 (fun k hk=>(HS5.out.2.roww.lt k (.inr hk)).1));clear hr6 hF6 hat6 hk6;refine hK.out _ _ ?_ ?_
          · exact .inr (by rw[cell_plain HB6.out.box,←HNW.out];rfl)
          clear hK K;simp only[Act.put,List.getElem_toArray,List.getElem_cons_succ,List.getElem_cons_zero,pS];refine nxL 9 rfl (fun K hK=> ?_);go_simp;refine hK.out _ _ ?_ ?_
          · exact .inr (by rw[cell_plain HB6.out.box,←HNW.out];rfl)
          clear hK K;refine nxL 10 rfl (fun K hK=> ?_);go_simp;refine hK.out _ _ ?_ ?_
          · exact .inr (by rw[cell_plain HB6.out.box,←HNW.out];rfl)
          clear hK K;refine nxL 11 rfl (fun K hK=> ?_);have d3:w21.cell? ⟨Y,3,none⟩=some (.slice pw 0 cw):=(by rw[cell_plain HB6.out.box,←HNW.out];rfl);have e3:w21.frozen? ⟨Y,3,none⟩=false:=frozen_plain HB6.out.box 3;go_simp;refine hK.out _ _ ?_ ?_
          · exact .inl (by kernel_rfl)
          clear hK K;refine doneL (by kernel_rfl) ?_ _;have HP:=yH (HS5.out.2.pushw (by decide) HX.out.2 HX.out.1 (fun k hk=>(HL6.out.rowa.lt k (.inr hk)).2) (fun k hk=>(HL6.out.rowr.lt k (.inr hk)).2) HS6.out.1 HS6.out.2.1 HS6.out.2.2.1 HS6.out.2.2.2);go_wp2_with fail
          go_end0
          refine⟨rfl,?_⟩;rw[HM.out,HY.out];exact⟨_,HP.out⟩
theorem BxO.ret {w0 w w4:World} {X Y:Nat} {cs:Array Value} {t:TypeId} {S:PS} (h:BxO w0 w w4 X Y cs t S) (hX:X<w.heap.size) (hX0:w0.heap.size≤X) {c:List Value} {n:Tr} (hc:Cel 8 c) (ht:NewAt w0 w4 (w.heap.size+1) fun W=>TrC W c n):
    TrEnd w0 w (w4.setRow w.heap.size c.toArray) (.returned (.agg c.toArray)) X (n,S):=by
  have hk:=kept_row0 w4 w.heap.size c.toArray;exact⟨c,rfl,hc,(ht.kept hk (fun k h1 h2=>by omega)).base (by omega),h.pr.kept hk (by omega) (fun i hi=>by omega),h.kept.trans hk fun i hi=> .inr (by omega)⟩
theorem simpleL_redir {f:Nat} {n:Nd} {S:PS} (h:S.isRedir=true):simpleL (f+1) n S=simpleL f { n with redirs:=n.redirs++ [(redirM S).1] } (redirM S).2:=by rw[simpleL,if_pos h]
theorem simpleL_word {f:Nat} {n:Nd} {S:PS} (h:S.isRedir=false) (h2:S.isWord=true):simpleL (f+1) n S=simpleL f (ParseMath.partM n S).1 (ParseMath.partM n S).2:=by rw[simpleL,if_neg (by rw[h];decide),if_pos h2]
theorem simpleL_end {f:Nat} {n:Nd} {S:PS} (h:S.isRedir=false) (h2:S.isWord=false):simpleL (f+1) n S=(n,S):=by rw[simpleL,if_neg (by rw[h];decide),if_neg (by rw[h2];decide)]
def n0:Nd:= { nd0 with op:= [99,109,100] }
def V0:Sv:=⟨none,0,[],fun _=>False,none,0,[],fun _=>False,none,0,[],fun _=>False⟩
theorem SiO.first {w0 w w1:World} {X:Nat} {S:PS} (hpr:Pr w0 w1 X S) (hz:w1.heap[w.heap.size]? =some ZN) (hk:Kept (fun k=>k=X) w w1):
    SiO w0 w (w1.alloc (.cells (siC V0 n0).toArray 44)) X w1.heap.size n0 V0 4002 S:=by
  have hl:=(gS.1 hz).1;have hfew:=hpr.good.few;have hap:∀k,(False∨(Value.slice none 0 0).ownBlock=some k)→(Value.slice none 0 0).ownBlock≠some k:=fun k hk=>hk.elim (fun h=>h.elim) (fun e=>by simp[Value.ownBlock]at e)
  exact { max:=by decide,box:=⟨heap_alloc_new w1 _,hl,hpr.new (below_new _ _),kept_alloc2 hz _,hk.on (Kept.of_below (below_new _ _))⟩,node:=⟨rfl,rfl,rfl,rfl⟩,
          roww:=RowG.nil _ _ _ _ _ _,rowa:=RowG.nil _ _ _ _ _ _,rowr:=RowG.nil _ _ _ _ _ _,apwa:=hap,apwr:=hap,apaw:=hap,apar:=hap,aprw:=hap,apra:=hap,
          feww:=by show 0+_≤_;omega,fewa:=by show 0+_≤_;omega,fewr:=by show 0+_≤_;omega }
set_option maxHeartbeats 16000000 in
set_option maxRecDepth 10000 in
theorem psimple_any {w0 w:World} {X:Nat} {S:PS} (h:Pr w0 w X S):Calls Tryz.prog 157 #[.pointer (some ⟨X,0,none⟩)] w fun e w'=>TrEnd w0 w w' e X (simpleM S):=by
  have HX:=yH h.base;have HIW:=yH (pisWord_any (h.new (below_new w ZN)));have HP0:=yH (h.new (below_new w ZN));have HIR:=yH (fun W (hW:Pr w0 W X S)=>pisRedir_any hW);have HG:=yH h.good;obtain⟨S1,hS1⟩:∃S1,S.want (S.isWord||S.isRedir)=S1:=⟨_,rfl⟩;have HM:=yH (show simpleM S=(.mk (simpleL S1.ts.length n0 S1).1 [],(simpleL S1.ts.length n0 S1).2)from by rw[←hS1];rfl);obtain⟨q,hq⟩:∃q,simpleL S1.ts.length n0 S1=q:=⟨_,rfl⟩;rw[hq]at HM;have HQ:=yH hq;have HS1:=yH hS1;clear h hS1 hq
  -- the loop, from wherever it begins
  have key:∀w1,Pr w0 w1 X S1→w1.heap[w.heap.size]? =some ZN→Kept (fun k=>k=X) w w1→SiO w0 w (w1.alloc (.cells (siC V0 n0).toArray 44)) X w1.heap.size n0 V0 4002 S1:=fun w1 h1 h2 h3=>SiO.first h1 h2 h3;have HK:=yH key;clear key
  cases h1:S.isWord with
  |true=>
    rw[h1]at HIW HS1;have HE1:=yH (show S=S1 from by have:=HS1.out;simpa [PS.want]using this);rw[HE1.out]at HP0 HG;clear h1;go_enter Tryz.func157,Tryz.ntmps157
    go_wp2_with (first
      |(go_at_call 189;refine HIW.out.mono ?_;rintro en w1 ⟨rfl,hb⟩;have HB1:=yH (And.intro hb (HP0.out.new hb));have HZ1:=yH ((hb.block w.heap.size (by simp)).trans (heap_alloc_new w ZN));clear hb))
    have hA0:=HK.out w1 HB1.out.2 HZ1.out ((Kept.of_below (below_new w ZN)).on (Kept.of_below HB1.out.1));obtain⟨wa,hwa⟩:∃wa,wa=w1.alloc (.cells (siC V0 n0).toArray 44):=⟨_,rfl⟩;rw[←hwa]at hA0;obtain⟨Y,hY⟩:∃Y,w1.heap.size=Y:=⟨_,rfl⟩;rw[show w1.alloc (.cells #[.string ⟨#[99,109,100]⟩,.string ⟨#[]⟩,.slice none 0 0,.slice none 0 0,.slice none 0 0,.slice none 0 0,.slice none 0 0] 44)=wa from hwa.symm,hY];rw[hY]at hA0;have HA0:=yH hA0;clear hA0 hwa hY
    go_loopw [] (fun wr=> ∃f n V S',SiO w0 w wr X Y n V 4002 S'∧simpleL f n S'=q∧S'.ts.length≤f) (fun wr=>psLen wr X)
    case atStart=>exact⟨_,_,_,_,HA0.out,HQ.out,Nat.le_refl _⟩
    case round=>
      obtain⟨f,n,V,S',hL,hm,hf⟩:=hrel;have hpos:=hL.box.pr.good.pos;obtain⟨f,rfl⟩:∃g,f=g+1:=⟨f-1,by omega⟩;obtain⟨pw,cw,cssw,Fw,pa,ca,cssa,Fa,pr,cr,cssr,Fr⟩:=V;have HRD:=yH (pisRedir_any hL.box.pr);have HS:=yH (And.intro hL (And.intro hm hf));obtain⟨nw,hnw⟩:∃x,n.words.length=x:=⟨_,rfl⟩;obtain⟨na,hna⟩:∃x,n.assigns.length=x:=⟨_,rfl⟩;obtain⟨nr,hnr⟩:∃x,n.redirs.length=x:=⟨_,rfl⟩;have HNN:=yH (And.intro hnw (And.intro hna hnr));have HCS:=yH (show ∀V M (T:PS) W,SiO w0 w W X Y n ⟨pw,cw,cssw,Fw,pa,ca,cssa,Fa,pr,cr,cssr,Fr⟩ M T→V=0→W.heap[Y]? =some (.cells (ndC ⟨#[99,109,100]⟩ ⟨#[]⟩ (.slice pw nw cw) (.slice none 0 0) (.slice pa na ca) (.slice pr nr cr)).toArray 44 (0,0))from fun V M T W h _=>by have:=h.box.box;unfold siC at this;rwa [hnw,hna,hnr]at this);clear hL hm hf hpos hnw hna hnr
      cases hi:S'.isRedir with
      |true=>
        rw[hi]at HRD;have HI:=yH hi;clear hi;obtain⟨y,hy⟩:∃y,(redirM S').1=y:=⟨_,rfl⟩;have HY:=yH hy;have HRE:=yH (fun W (hW:Pr w0 W X S')=>predir_any hW);rw[hy]at HRE;obtain⟨yl,hyl⟩:∃x,y.2.length=x:=⟨_,rfl⟩;obtain⟨yt,hyt⟩:∃x,T y.1=x:=⟨_,rfl⟩;have HYT:=yH hyt;rw[hyl,hyt]at HRE;have HLT:=yH (redir_lt HS.out.1.box.pr.good HI.out);clear hy hyl hyt
        go_wp2_with (go_at_call 158;refine HRD.out.mono ?_;rintro en w5 ⟨rfl,hb⟩;have HL5:=yH (HS.out.1.new HX.out.2 hb);clear hb)
        refine regionL (S:=(fun W=>W.cell? ⟨Y,6,none⟩=some (.slice pr nr cr))) (L:=7) (by kernel_rfl) ?_ (fun hHeld=> ?_)
        · exact(by rw[cell_plain (HCS.out 0 _ _ _ (HL5.out.new HX.out.2 (below_drewA w5)) rfl)];rfl)
        refine tkL 0 20 rfl rfl ?_ ?_ ?_;rotate_left
        · intro _ _;go_simp<;>(with_reducible rfl)
        simp only[pS];refine tkL 1 21 rfl rfl ?_ ?_ ?_;rotate_left
        · intro _ _;go_simp<;>(with_reducible rfl)
        simp only[pS];refine tkL 2 22 rfl rfl ?_ ?_ ?_;rotate_left
        · intro _ _;go_simp<;>(with_reducible rfl)
        simp only[pS];refine nxL 3 rfl (fun K hK=> ?_);go_simp
        go_wp2_with (go_at_call 159;refine(HRE.out _ (HL5.out.new HX.out.2 (below_drewA w5)).box.pr).mono ?_;rintro en w6 ⟨p6,k6,rfl,hu,hs⟩;have HL6:=yH (And.intro hu ((HL5.out.new HX.out.2 (below_drewA w5)).step (M':=4001) HX.out.2 hs (by decide) (by have:=HLT.out;omega)));clear hs hu)
        refine hK.out _ _ ?_ ?_
        · exact .inr (by rw[cell_plain (HCS.out 0 _ _ _ HL6.out.2 rfl)];rfl)
        clear hK K;refine nxL 4 rfl (fun K hK=> ?_);refine wp_one elRedir (.tmp 23) rfl _ [.string yt,.slice p6 yl k6] rfl (pair_cel _ _ _ _) rfl ?_;refine hK.out _ _ ?_ ?_
        · exact .inr (by rw[cell_plain (HCS.out 0 _ _ _ (HL6.out.2.new HX.out.2 (below_new w6 _)) rfl)];rfl)
        clear hK K;simp only[Act.put,List.getElem_toArray,List.getElem_cons_succ,List.getElem_cons_zero,pS];refine nxL 5 rfl (fun K hK=> ?_);refine wp_push elRedir (.tmp 21) (.tmp 24) rfl HL6.out.2.rowr (pair_cel _ _ _ _) (y:=y) (C:=w6.heap.size) (NewAt.of0 fun W hW=>⟨_,by rw[←HYT.out];rfl,HL6.out.1.stays hW⟩) HL6.out.2.box.lt (fun k hk=>(HL6.out.2.rowr.lt k (.inr hk)).2) (by have:=HL6.out.2.fewr;omega) (by rw[HNN.out.2.2];rfl) rfl HL6.out.2.box.lt ?_;intro p8 c8 F8 w8 hr8 hF8 hat8 hk8;have HS8:=yH (And.intro hr8 (And.intro hF8 (And.intro hat8 hk8)));have HB8:=yH (HL6.out.2.box.turn HX.out.2 HX.out.1 hk8 (fun k hk=>(HL6.out.2.rowr.lt k (.inr hk)).1));have HC8:=yH (show w8.cell? ⟨Y,6,none⟩=some (.slice pr nr cr)from by rw[cell_plain HB8.out.box,←HNN.out.2.2];rfl);clear hr8 hF8 hat8 hk8;refine hK.out _ _ ?_ ?_
        · exact .inr HC8.out
        clear hK K;simp only[Act.put,List.getElem_toArray,List.getElem_cons_succ,List.getElem_cons_zero,pS];refine nxL 6 rfl (fun K hK=> ?_);go_simp;refine hK.out _ _ ?_ ?_
        · exact .inr HC8.out
        clear hK K;refine nxL 7 rfl (fun K hK=> ?_);have d3:=HC8.out;have e3:w8.frozen? ⟨Y,6,none⟩=false:=frozen_plain HB8.out.box 6;go_simp;refine hK.out _ _ ?_ ?_
        · exact .inl (by kernel_rfl)
        clear hK K;refine doneL (by kernel_rfl) ?_ _;have HP:=yH (HL6.out.2.pushr (by decide) HX.out.2 HX.out.1 (fun k hk=>(HL6.out.2.roww.lt k (.inr hk)).2) (fun k hk=>(HL6.out.2.rowa.lt k (.inr hk)).2) HS8.out.1 HS8.out.2.1 HS8.out.2.2.1 HS8.out.2.2.2);go_wp2_with fail
        go_roundw
        case rel=>exact⟨f,_,_,_,HP.out,by rw[←HY.out,←simpleL_redir HI.out];exact HS.out.2.1,by have:=HS.out.2.2;have:=HLT.out;omega⟩
        case measure=>rw[HP.out.box.pr.len,HS.out.1.box.pr.len];exact HLT.out
      |false=>
        rw[hi]at HRD;have HI:=yH hi;clear hi;have HWD:=yH (fun W (hW:Pr w0 W X S')=>pisWord_any hW)
        cases hj:S'.isWord with
        |true=>
          rw[hj]at HWD;have HJ:=yH hj;clear hj
          go_wp2_with (first
            |(go_at_call 158;refine HRD.out.mono ?_;rintro en w5 ⟨rfl,hb⟩;have HL5:=yH (HS.out.1.new HX.out.2 hb);clear hb)
            |(go_at_call 189;refine(HWD.out _ HL5.out.box.pr).mono ?_;rintro en w6 ⟨rfl,hb⟩;have HL6:=yH (HL5.out.new HX.out.2 hb);clear hb)
            |(go_at_call 190;refine(ppart_any HX.out.2 HX.out.1 HL6.out HJ.out).mono ?_;rintro en w7 ⟨rfl,V',hp⟩;have HP:=yH hp;clear hp))
          go_roundw
          case rel=>exact⟨f,_,_,_,HP.out,by rw[←simpleL_word HI.out HJ.out];exact HS.out.2.1,by have:=HS.out.2.2;have:=part_lt HS.out.1.box.pr.good n HJ.out;omega⟩
          case measure=>rw[HP.out.box.pr.len,HS.out.1.box.pr.len];exact part_lt HS.out.1.box.pr.good n HJ.out
        |false=>
          rw[hj]at HWD;have HE:=yH (show simpleM S=(.mk n [],S')from by rw[HM.out,←HS.out.2.1,simpleL_end HI.out hj]);clear hj
          go_wp2_with (first
            |(go_at_call 158;refine HRD.out.mono ?_;rintro en w5 ⟨rfl,hb⟩;have HL5:=yH (HS.out.1.new HX.out.2 hb);clear hb)
            |(go_at_call 189;refine(HWD.out _ HL5.out.box.pr).mono ?_;rintro en w6 ⟨rfl,hb⟩;have HL6:=yH (HL5.out.new HX.out.2 hb);clear hb)
            |(refine wpList_load_row (by rfl) 44 (.tmp 3) (by rfl) Y (by rfl) 44 (ndC ⟨#[99,109,100]⟩ ⟨#[]⟩ (.slice pw nw cw) (.slice none 0 0) (.slice pa na ca) (.slice pr nr cr)).toArray (0,0) _ (HCS.out 0 _ _ _ HL6.out rfl) Tryz.underlying44 rfl (by rw[nd_info];rfl) ?_)
            |(refine wpList_build1 (by rfl) 56 0 (.tmp 15) (by rfl) (.agg (ndC ⟨#[99,109,100]⟩ ⟨#[]⟩ (.slice pw nw cw) (.slice none 0 0) (.slice pa na ca) (.slice pr nr cr)).toArray) (nkC ⟨#[99,109,100]⟩ ⟨#[]⟩ (.slice pw nw cw) (.slice none 0 0) (.slice pa na ca) (.slice pr nr cr) (.slice none 0 0)).toArray (by rfl) (built_n0 _ _ _ _ _ _ _ _ _ _ _ _ _ _) ?_)
            |(refine wpList_store_row (by rfl) 56 (.tmp 2) (.tmp 16) (by rfl) w.heap.size (nkC ⟨#[99,109,100]⟩ ⟨#[]⟩ (.slice pw nw cw) (.slice none 0 0) (.slice pa na ca) (.slice pr nr cr) (.slice none 0 0)).toArray (by rfl) (by rfl) 56 zeroN.toArray HL6.out.box.zero (by rw[node_info];rfl) rfl (all_oneCell_toArray (nkC_cel _ _ _ _ _ _ _ _ _ _ _ _ _ _ _ _ _).2) ?_))
          (try simp only[Exit.inBlock,Exit.then])
          refine bodyPost_ret (ret_tree rfl (setRow_heap w6 w.heap.size zeroN.toArray _ 56 (0,0) HL6.out.box.zero) (nkC_cel _ _ _ _ _ _ _ _ _ _ _ _ _ _ _ _ _) rfl) rfl ?_;rw[HE.out];have ht:=HL6.out.node_tree;unfold siC at ht;rw[HNN.out.1,HNN.out.2.1,HNN.out.2.2]at ht;exact HL6.out.box.ret HX.out.2 HX.out.1 (nkC_cel _ _ _ _ _ _ _ _ _ _ _ _ _ _ _ _ _) ht
  |false=>
    rw[h1]at HIW HS1
    cases h2:S.isRedir with
    |true=>
      rw[h2]at HIR HS1;have HE1:=yH (show S=S1 from by have:=HS1.out;simpa [PS.want]using this);clear h1 h2;go_enter Tryz.func157,Tryz.ntmps157
      go_wp2_with (first
        |(go_at_call 189;refine HIW.out.mono ?_;rintro en w1 ⟨rfl,hb⟩;have HB1:=yH (And.intro hb (HP0.out.new hb));have HZ1:=yH ((hb.block w.heap.size (by simp)).trans (heap_alloc_new w ZN));clear hb)
        |(go_at_call 158;refine(HIR.out _ HB1.out.2).mono ?_;rintro en w2 ⟨rfl,hb⟩;have HB2:=yH (And.intro (HB1.out.1.trans (hb.mono HB1.out.1.size)) (HB1.out.2.new hb));have HZ2:=yH ((hb.block w.heap.size (gS.1 HZ1.out).1).trans HZ1.out);clear hb))
      have hA0:=HK.out w2 (HE1.out▸HB2.out.2) HZ2.out ((Kept.of_below (below_new w ZN)).on (Kept.of_below HB2.out.1));obtain⟨wa,hwa⟩:∃wa,wa=w2.alloc (.cells (siC V0 n0).toArray 44):=⟨_,rfl⟩;rw[←hwa]at hA0;obtain⟨Y,hY⟩:∃Y,w2.heap.size=Y:=⟨_,rfl⟩;rw[show w2.alloc (.cells #[.string ⟨#[99,109,100]⟩,.string ⟨#[]⟩,.slice none 0 0,.slice none 0 0,.slice none 0 0,.slice none 0 0,.slice none 0 0] 44)=wa from hwa.symm,hY];rw[hY]at hA0;have HA0:=yH hA0;clear hA0 hwa hY
      go_loopw [] (fun wr=> ∃f n V S',SiO w0 w wr X Y n V 4002 S'∧simpleL f n S'=q∧S'.ts.length≤f) (fun wr=>psLen wr X)
      case atStart=>exact⟨_,_,_,_,HA0.out,HQ.out,Nat.le_refl _⟩
      case round=>
        obtain⟨f,n,V,S',hL,hm,hf⟩:=hrel;have hpos:=hL.box.pr.good.pos;obtain⟨f,rfl⟩:∃g,f=g+1:=⟨f-1,by omega⟩;obtain⟨pw,cw,cssw,Fw,pa,ca,cssa,Fa,pr,cr,cssr,Fr⟩:=V;have HRD:=yH (pisRedir_any hL.box.pr);have HS:=yH (And.intro hL (And.intro hm hf));obtain⟨nw,hnw⟩:∃x,n.words.length=x:=⟨_,rfl⟩;obtain⟨na,hna⟩:∃x,n.assigns.length=x:=⟨_,rfl⟩;obtain⟨nr,hnr⟩:∃x,n.redirs.length=x:=⟨_,rfl⟩;have HNN:=yH (And.intro hnw (And.intro hna hnr));have HCS:=yH (show ∀V M (T:PS) W,SiO w0 w W X Y n ⟨pw,cw,cssw,Fw,pa,ca,cssa,Fa,pr,cr,cssr,Fr⟩ M T→V=0→W.heap[Y]? =some (.cells (ndC ⟨#[99,109,100]⟩ ⟨#[]⟩ (.slice pw nw cw) (.slice none 0 0) (.slice pa na ca) (.slice pr nr cr)).toArray 44 (0,0))from fun V M T W h _=>by have:=h.box.box;unfold siC at this;rwa [hnw,hna,hnr]at this);clear hL hm hf hpos hnw hna hnr
        cases hi:S'.isRedir with
        |true=>
          rw[hi]at HRD;have HI:=yH hi;clear hi;obtain⟨y,hy⟩:∃y,(redirM S').1=y:=⟨_,rfl⟩;have HY:=yH hy;have HRE:=yH (fun W (hW:Pr w0 W X S')=>predir_any hW);rw[hy]at HRE;obtain⟨yl,hyl⟩:∃x,y.2.length=x:=⟨_,rfl⟩;obtain⟨yt,hyt⟩:∃x,T y.1=x:=⟨_,rfl⟩;have HYT:=yH hyt;rw[hyl,hyt]at HRE;have HLT:=yH (redir_lt HS.out.1.box.pr.good HI.out);clear hy hyl hyt
          go_wp2_with (go_at_call 158;refine HRD.out.mono ?_;rintro en w5 ⟨rfl,hb⟩;have HL5:=yH (HS.out.1.new HX.out.2 hb);clear hb)
          refine regionL (S:=(fun W=>W.cell? ⟨Y,6,none⟩=some (.slice pr nr cr))) (L:=7) (by kernel_rfl) ?_ (fun hHeld=> ?_)
          · exact(by rw[cell_plain (HCS.out 0 _ _ _ (HL5.out.new HX.out.2 (below_drewA w5)) rfl)];rfl)
          refine tkL 0 20 rfl rfl ?_ ?_ ?_;rotate_left
          · intro _ _;go_simp<;>(with_reducible rfl)
          simp only[pS];refine tkL 1 21 rfl rfl ?_ ?_ ?_;rotate_left
          · intro _ _;go_simp<;>(with_reducible rfl)
          simp only[pS];refine tkL 2 22 rfl rfl ?_ ?_ ?_;rotate_left
          · intro _ _;go_simp<;>(with_reducible rfl)
          simp only[pS];refine nxL 3 rfl (fun K hK=> ?_);go_simp
          go_wp2_with (go_at_call 159;refine(HRE.out _ (HL5.out.new HX.out.2 (below_drewA w5)).box.pr).mono ?_;rintro en w6 ⟨p6,k6,rfl,hu,hs⟩;have HL6:=yH (And.intro hu ((HL5.out.new HX.out.2 (below_drewA w5)).step (M':=4001) HX.out.2 hs (by decide) (by have:=HLT.out;omega)));clear hs hu)
          refine hK.out _ _ ?_ ?_
          · exact .inr (by rw[cell_plain (HCS.out 0 _ _ _ HL6.out.2 rfl)];rfl)
          clear hK K;refine nxL 4 rfl (fun K hK=> ?_);refine wp_one elRedir (.tmp 23) rfl _ [.string yt,.slice p6 yl k6] rfl (pair_cel _ _ _ _) rfl ?_;refine hK.out _ _ ?_ ?_
          · exact .inr (by rw[cell_plain (HCS.out 0 _ _ _ (HL6.out.2.new HX.out.2 (below_new w6 _)) rfl)];rfl)
          clear hK K;simp only[Act.put,List.getElem_toArray,List.getElem_cons_succ,List.getElem_cons_zero,pS];refine nxL 5 rfl (fun K hK=> ?_);refine wp_push elRedir (.tmp 21) (.tmp 24) rfl HL6.out.2.rowr (pair_cel _ _ _ _) (y:=y) (C:=w6.heap.size) (NewAt.of0 fun W hW=>⟨_,by rw[←HYT.out];rfl,HL6.out.1.stays hW⟩) HL6.out.2.box.lt (fun k hk=>(HL6.out.2.rowr.lt k (.inr hk)).2) (by have:=HL6.out.2.fewr;omega) (by rw[HNN.out.2.2];rfl) rfl HL6.out.2.box.lt ?_;intro p8 c8 F8 w8 hr8 hF8 hat8 hk8;have HS8:=yH (And.intro hr8 (And.intro hF8 (And.intro hat8 hk8)));have HB8:=yH (HL6.out.2.box.turn HX.out.2 HX.out.1 hk8 (fun k hk=>(HL6.out.2.rowr.lt k (.inr hk)).1));have HC8:=yH (show w8.cell? ⟨Y,6,none⟩=some (.slice pr nr cr)from by rw[cell_plain HB8.out.box,←HNN.out.2.2];rfl);clear hr8 hF8 hat8 hk8;refine hK.out _ _ ?_ ?_
          · exact .inr HC8.out
          clear hK K;simp only[Act.put,List.getElem_toArray,List.getElem_cons_succ,List.getElem_cons_zero,pS];refine nxL 6 rfl (fun K hK=> ?_);go_simp;refine hK.out _ _ ?_ ?_
          · exact .inr HC8.out
          clear hK K;refine nxL 7 rfl (fun K hK=> ?_);have d3:=HC8.out;have e3:w8.frozen? ⟨Y,6,none⟩=false:=frozen_plain HB8.out.box 6;go_simp;refine hK.out _ _ ?_ ?_
          · exact .inl (by kernel_rfl)
          clear hK K;refine doneL (by kernel_rfl) ?_ _;have HP:=yH (HL6.out.2.pushr (by decide) HX.out.2 HX.out.1 (fun k hk=>(HL6.out.2.roww.lt k (.inr hk)).2) (fun k hk=>(HL6.out.2.rowa.lt k (.inr hk)).2) HS8.out.1 HS8.out.2.1 HS8.out.2.2.1 HS8.out.2.2.2);go_wp2_with fail
          go_roundw
          case rel=>exact⟨f,_,_,_,HP.out,by rw[←HY.out,←simpleL_redir HI.out];exact HS.out.2.1,by have:=HS.out.2.2;have:=HLT.out;omega⟩
          case measure=>rw[HP.out.box.pr.len,HS.out.1.box.pr.len];exact HLT.out
        |false=>
          rw[hi]at HRD;have HI:=yH hi;clear hi;have HWD:=yH (fun W (hW:Pr w0 W X S')=>pisWord_any hW)
          cases hj:S'.isWord with
          |true=>
            rw[hj]at HWD;have HJ:=yH hj;clear hj
            go_wp2_with (first
              |(go_at_call 158;refine HRD.out.mono ?_;rintro en w5 ⟨rfl,hb⟩;have HL5:=yH (HS.out.1.new HX.out.2 hb);clear hb)
              |(go_at_call 189;refine(HWD.out _ HL5.out.box.pr).mono ?_;rintro en w6 ⟨rfl,hb⟩;have HL6:=yH (HL5.out.new HX.out.2 hb);clear hb)
              |(go_at_call 190;refine(ppart_any HX.out.2 HX.out.1 HL6.out HJ.out).mono ?_;rintro en w7 ⟨rfl,V',hp⟩;have HP:=yH hp;clear hp))
            go_roundw
            case rel=>exact⟨f,_,_,_,HP.out,by rw[←simpleL_word HI.out HJ.out];exact HS.out.2.1,by have:=HS.out.2.2;have:=part_lt HS.out.1.box.pr.good n HJ.out;omega⟩
            case measure=>rw[HP.out.box.pr.len,HS.out.1.box.pr.len];exact part_lt HS.out.1.box.pr.good n HJ.out
          |false=>
            rw[hj]at HWD;have HE:=yH (show simpleM S=(.mk n [],S')from by rw[HM.out,←HS.out.2.1,simpleL_end HI.out hj]);clear hj
            go_wp2_with (first
              |(go_at_call 158;refine HRD.out.mono ?_;rintro en w5 ⟨rfl,hb⟩;have HL5:=yH (HS.out.1.new HX.out.2 hb);clear hb)
              |(go_at_call 189;refine(HWD.out _ HL5.out.box.pr).mono ?_;rintro en w6 ⟨rfl,hb⟩;have HL6:=yH (HL5.out.new HX.out.2 hb);clear hb)
              |(refine wpList_load_row (by rfl) 44 (.tmp 3) (by rfl) Y (by rfl) 44 (ndC ⟨#[99,109,100]⟩ ⟨#[]⟩ (.slice pw nw cw) (.slice none 0 0) (.slice pa na ca) (.slice pr nr cr)).toArray (0,0) _ (HCS.out 0 _ _ _ HL6.out rfl) Tryz.underlying44 rfl (by rw[nd_info];rfl) ?_)
              |(refine wpList_build1 (by rfl) 56 0 (.tmp 15) (by rfl) (.agg (ndC ⟨#[99,109,100]⟩ ⟨#[]⟩ (.slice pw nw cw) (.slice none 0 0) (.slice pa na ca) (.slice pr nr cr)).toArray) (nkC ⟨#[99,109,100]⟩ ⟨#[]⟩ (.slice pw nw cw) (.slice none 0 0) (.slice pa na ca) (.slice pr nr cr) (.slice none 0 0)).toArray (by rfl) (built_n0 _ _ _ _ _ _ _ _ _ _ _ _ _ _) ?_)
              |(refine wpList_store_row (by rfl) 56 (.tmp 2) (.tmp 16) (by rfl) w.heap.size (nkC ⟨#[99,109,100]⟩ ⟨#[]⟩ (.slice pw nw cw) (.slice none 0 0) (.slice pa na ca) (.slice pr nr cr) (.slice none 0 0)).toArray (by rfl) (by rfl) 56 zeroN.toArray HL6.out.box.zero (by rw[node_info];rfl) rfl (all_oneCell_toArray (nkC_cel _ _ _ _ _ _ _ _ _ _ _ _ _ _ _ _ _).2) ?_))
            (try simp only[Exit.inBlock,Exit.then])
            refine bodyPost_ret (ret_tree rfl (setRow_heap w6 w.heap.size zeroN.toArray _ 56 (0,0) HL6.out.box.zero) (nkC_cel _ _ _ _ _ _ _ _ _ _ _ _ _ _ _ _ _) rfl) rfl ?_;rw[HE.out];have ht:=HL6.out.node_tree;unfold siC at ht;rw[HNN.out.1,HNN.out.2.1,HNN.out.2.2]at ht;exact HL6.out.box.ret HX.out.2 HX.out.1 (nkC_cel _ _ _ _ _ _ _ _ _ _ _ _ _ _ _ _ _) ht
    |false=>
      rw[h2]at HIR HS1;have HE1:=yH (show S.fail 2=S1 from by have:=HS1.out;simpa [PS.want]using this);clear h1 h2;go_enter Tryz.func157,Tryz.ntmps157
      go_wp2_with (first
        |(go_at_call 189;refine HIW.out.mono ?_;rintro en w1 ⟨rfl,hb⟩;have HB1:=yH (And.intro hb (HP0.out.new hb));have HZ1:=yH ((hb.block w.heap.size (by simp)).trans (heap_alloc_new w ZN));clear hb)
        |(go_at_call 158;refine(HIR.out _ HB1.out.2).mono ?_;rintro en w2 ⟨rfl,hb⟩;have HB2:=yH (And.intro (HB1.out.1.trans (hb.mono HB1.out.1.size)) (HB1.out.2.new hb));have HZ2:=yH ((hb.block w.heap.size (gS.1 HZ1.out).1).trans HZ1.out);clear hb)
        |(go_at_call 46;refine(pfail_any HB2.out.2 2 (by decide)).mono ?_;rintro en w3 ⟨rfl,hs⟩;have HS3:=yH (And.intro hs (hs.2.heap HZ2.out (by have:=HX.out;omega)));clear hs))
      have hA0:=HK.out w3 (HE1.out▸HS3.out.1.1) HS3.out.2 (((Kept.of_below (below_new w ZN)).on (Kept.of_below HB2.out.1)).on HS3.out.1.2);obtain⟨wa,hwa⟩:∃wa,wa=w3.alloc (.cells (siC V0 n0).toArray 44):=⟨_,rfl⟩;rw[←hwa]at hA0;obtain⟨Y,hY⟩:∃Y,w3.heap.size=Y:=⟨_,rfl⟩;rw[show w3.alloc (.cells #[.string ⟨#[99,109,100]⟩,.string ⟨#[]⟩,.slice none 0 0,.slice none 0 0,.slice none 0 0,.slice none 0 0,.slice none 0 0] 44)=wa from hwa.symm,hY];rw[hY]at hA0;have HA0:=yH hA0;clear hA0 hwa hY
      go_loopw [] (fun wr=> ∃f n V S',SiO w0 w wr X Y n V 4002 S'∧simpleL f n S'=q∧S'.ts.length≤f) (fun wr=>psLen wr X)
      case atStart=>exact⟨_,_,_,_,HA0.out,HQ.out,Nat.le_refl _⟩
      case round=>
        obtain⟨f,n,V,S',hL,hm,hf⟩:=hrel;have hpos:=hL.box.pr.good.pos;obtain⟨f,rfl⟩:∃g,f=g+1:=⟨f-1,by omega⟩;obtain⟨pw,cw,cssw,Fw,pa,ca,cssa,Fa,pr,cr,cssr,Fr⟩:=V;have HRD:=yH (pisRedir_any hL.box.pr);have HS:=yH (And.intro hL (And.intro hm hf));obtain⟨nw,hnw⟩:∃x,n.words.length=x:=⟨_,rfl⟩;obtain⟨na,hna⟩:∃x,n.assigns.length=x:=⟨_,rfl⟩;obtain⟨nr,hnr⟩:∃x,n.redirs.length=x:=⟨_,rfl⟩;have HNN:=yH (And.intro hnw (And.intro hna hnr));have HCS:=yH (show ∀V M (T:PS) W,SiO w0 w W X Y n ⟨pw,cw,cssw,Fw,pa,ca,cssa,Fa,pr,cr,cssr,Fr⟩ M T→V=0→W.heap[Y]? =some (.cells (ndC ⟨#[99,109,100]⟩ ⟨#[]⟩ (.slice pw nw cw) (.slice none 0 0) (.slice pa na ca) (.slice pr nr cr)).toArray 44 (0,0))from fun V M T W h _=>by have:=h.box.box;unfold siC at this;rwa [hnw,hna,hnr]at this);clear hL hm hf hpos hnw hna hnr
        cases hi:S'.isRedir with
        |true=>
          rw[hi]at HRD;have HI:=yH hi;clear hi;obtain⟨y,hy⟩:∃y,(redirM S').1=y:=⟨_,rfl⟩;have HY:=yH hy;have HRE:=yH (fun W (hW:Pr w0 W X S')=>predir_any hW);rw[hy]at HRE;obtain⟨yl,hyl⟩:∃x,y.2.length=x:=⟨_,rfl⟩;obtain⟨yt,hyt⟩:∃x,T y.1=x:=⟨_,rfl⟩;have HYT:=yH hyt;rw[hyl,hyt]at HRE;have HLT:=yH (redir_lt HS.out.1.box.pr.good HI.out);clear hy hyl hyt
          go_wp2_with (go_at_call 158;refine HRD.out.mono ?_;rintro en w5 ⟨rfl,hb⟩;have HL5:=yH (HS.out.1.new HX.out.2 hb);clear hb)
          refine regionL (S:=(fun W=>W.cell? ⟨Y,6,none⟩=some (.slice pr nr cr))) (L:=7) (by kernel_rfl) ?_ (fun hHeld=> ?_)
          · exact(by rw[cell_plain (HCS.out 0 _ _ _ (HL5.out.new HX.out.2 (below_drewA w5)) rfl)];rfl)
          refine tkL 0 20 rfl rfl ?_ ?_ ?_;rotate_left
          · intro _ _;go_simp<;>(with_reducible rfl)
          simp only[pS];refine tkL 1 21 rfl rfl ?_ ?_ ?_;rotate_left
          · intro _ _;go_simp<;>(with_reducible rfl)
          simp only[pS];refine tkL 2 22 rfl rfl ?_ ?_ ?_;rotate_left
          · intro _ _;go_simp<;>(with_reducible rfl)
          simp only[pS];refine nxL 3 rfl (fun K hK=> ?_);go_simp
          go_wp2_with (go_at_call 159;refine(HRE.out _ (HL5.out.new HX.out.2 (below_drewA w5)).box.pr).mono ?_;rintro en w6 ⟨p6,k6,rfl,hu,hs⟩;have HL6:=yH (And.intro hu ((HL5.out.new HX.out.2 (below_drewA w5)).step (M':=4001) HX.out.2 hs (by decide) (by have:=HLT.out;omega)));clear hs hu)
          refine hK.out _ _ ?_ ?_
          · exact .inr (by rw[cell_plain (HCS.out 0 _ _ _ HL6.out.2 rfl)];rfl)
          clear hK K;refine nxL 4 rfl (fun K hK=> ?_);refine wp_one elRedir (.tmp 23) rfl _ [.string yt,.slice p6 yl k6] rfl (pair_cel _ _ _ _) rfl ?_;refine hK.out _ _ ?_ ?_
          · exact .inr (by rw[cell_plain (HCS.out 0 _ _ _ (HL6.out.2.new HX.out.2 (below_new w6 _)) rfl)];rfl)
          clear hK K;simp only[Act.put,List.getElem_toArray,List.getElem_cons_succ,List.getElem_cons_zero,pS];refine nxL 5 rfl (fun K hK=> ?_);refine wp_push elRedir (.tmp 21) (.tmp 24) rfl HL6.out.2.rowr (pair_cel _ _ _ _) (y:=y) (C:=w6.heap.size) (NewAt.of0 fun W hW=>⟨_,by rw[←HYT.out];rfl,HL6.out.1.stays hW⟩) HL6.out.2.box.lt (fun k hk=>(HL6.out.2.rowr.lt k (.inr hk)).2) (by have:=HL6.out.2.fewr;omega) (by rw[HNN.out.2.2];rfl) rfl HL6.out.2.box.lt ?_;intro p8 c8 F8 w8 hr8 hF8 hat8 hk8;have HS8:=yH (And.intro hr8 (And.intro hF8 (And.intro hat8 hk8)));have HB8:=yH (HL6.out.2.box.turn HX.out.2 HX.out.1 hk8 (fun k hk=>(HL6.out.2.rowr.lt k (.inr hk)).1));have HC8:=yH (show w8.cell? ⟨Y,6,none⟩=some (.slice pr nr cr)from by rw[cell_plain HB8.out.box,←HNN.out.2.2];rfl);clear hr8 hF8 hat8 hk8;refine hK.out _ _ ?_ ?_
          · exact .inr HC8.out
          clear hK K;simp only[Act.put,List.getElem_toArray,List.getElem_cons_succ,List.getElem_cons_zero,pS];refine nxL 6 rfl (fun K hK=> ?_);go_simp;refine hK.out _ _ ?_ ?_
          · exact .inr HC8.out
          clear hK K;refine nxL 7 rfl (fun K hK=> ?_);have d3:=HC8.out;have e3:w8.frozen? ⟨Y,6,none⟩=false:=frozen_plain HB8.out.box 6;go_simp;refine hK.out _ _ ?_ ?_
          · exact .inl (by kernel_rfl)
          clear hK K;refine doneL (by kernel_rfl) ?_ _;have HP:=yH (HL6.out.2.pushr (by decide) HX.out.2 HX.out.1 (fun k hk=>(HL6.out.2.roww.lt k (.inr hk)).2) (fun k hk=>(HL6.out.2.rowa.lt k (.inr hk)).2) HS8.out.1 HS8.out.2.1 HS8.out.2.2.1 HS8.out.2.2.2);go_wp2_with fail
          go_roundw
          case rel=>exact⟨f,_,_,_,HP.out,by rw[←HY.out,←simpleL_redir HI.out];exact HS.out.2.1,by have:=HS.out.2.2;have:=HLT.out;omega⟩
          case measure=>rw[HP.out.box.pr.len,HS.out.1.box.pr.len];exact HLT.out
        |false=>
          rw[hi]at HRD;have HI:=yH hi;clear hi;have HWD:=yH (fun W (hW:Pr w0 W X S')=>pisWord_any hW)
          cases hj:S'.isWord with
          |true=>
            rw[hj]at HWD;have HJ:=yH hj;clear hj
            go_wp2_with (first
              |(go_at_call 158;refine HRD.out.mono ?_;rintro en w5 ⟨rfl,hb⟩;have HL5:=yH (HS.out.1.new HX.out.2 hb);clear hb)
              |(go_at_call 189;refine(HWD.out _ HL5.out.box.pr).mono ?_;rintro en w6 ⟨rfl,hb⟩;have HL6:=yH (HL5.out.new HX.out.2 hb);clear hb)
              |(go_at_call 190;refine(ppart_any HX.out.2 HX.out.1 HL6.out HJ.out).mono ?_;rintro en w7 ⟨rfl,V',hp⟩;have HP:=yH hp;clear hp))
            go_roundw
            case rel=>exact⟨f,_,_,_,HP.out,by rw[←simpleL_word HI.out HJ.out];exact HS.out.2.1,by have:=HS.out.2.2;have:=part_lt HS.out.1.box.pr.good n HJ.out;omega⟩
            case measure=>rw[HP.out.box.pr.len,HS.out.1.box.pr.len];exact part_lt HS.out.1.box.pr.good n HJ.out
          |false=>
            rw[hj]at HWD;have HE:=yH (show simpleM S=(.mk n [],S')from by rw[HM.out,←HS.out.2.1,simpleL_end HI.out hj]);clear hj
            go_wp2_with (first
              |(go_at_call 158;refine HRD.out.mono ?_;rintro en w5 ⟨rfl,hb⟩;have HL5:=yH (HS.out.1.new HX.out.2 hb);clear hb)
              |(go_at_call 189;refine(HWD.out _ HL5.out.box.pr).mono ?_;rintro en w6 ⟨rfl,hb⟩;have HL6:=yH (HL5.out.new HX.out.2 hb);clear hb)
              |(refine wpList_load_row (by rfl) 44 (.tmp 3) (by rfl) Y (by rfl) 44 (ndC ⟨#[99,109,100]⟩ ⟨#[]⟩ (.slice pw nw cw) (.slice none 0 0) (.slice pa na ca) (.slice pr nr cr)).toArray (0,0) _ (HCS.out 0 _ _ _ HL6.out rfl) Tryz.underlying44 rfl (by rw[nd_info];rfl) ?_)
              |(refine wpList_build1 (by rfl) 56 0 (.tmp 15) (by rfl) (.agg (ndC ⟨#[99,109,100]⟩ ⟨#[]⟩ (.slice pw nw cw) (.slice none 0 0) (.slice pa na ca) (.slice pr nr cr)).toArray) (nkC ⟨#[99,109,100]⟩ ⟨#[]⟩ (.slice pw nw cw) (.slice none 0 0) (.slice pa na ca) (.slice pr nr cr) (.slice none 0 0)).toArray (by rfl) (built_n0 _ _ _ _ _ _ _ _ _ _ _ _ _ _) ?_)
              |(refine wpList_store_row (by rfl) 56 (.tmp 2) (.tmp 16) (by rfl) w.heap.size (nkC ⟨#[99,109,100]⟩ ⟨#[]⟩ (.slice pw nw cw) (.slice none 0 0) (.slice pa na ca) (.slice pr nr cr) (.slice none 0 0)).toArray (by rfl) (by rfl) 56 zeroN.toArray HL6.out.box.zero (by rw[node_info];rfl) rfl (all_oneCell_toArray (nkC_cel _ _ _ _ _ _ _ _ _ _ _ _ _ _ _ _ _).2) ?_))
            (try simp only[Exit.inBlock,Exit.then])
            refine bodyPost_ret (ret_tree rfl (setRow_heap w6 w.heap.size zeroN.toArray _ 56 (0,0) HL6.out.box.zero) (nkC_cel _ _ _ _ _ _ _ _ _ _ _ _ _ _ _ _ _) rfl) rfl ?_;rw[HE.out];have ht:=HL6.out.node_tree;unfold siC at ht;rw[HNN.out.1,HNN.out.2.1,HNN.out.2.2]at ht;exact HL6.out.box.ret HX.out.2 HX.out.1 (nkC_cel _ _ _ _ _ _ _ _ _ _ _ _ _ _ _ _ _) ht
end Go.Proofs.YtakceggnadagmaaGreatDoor
