/-
  Proved: contracts of the statements' own parts and Word. Conditions: texts of at most 2^20 bytes; the library's tables lie as they should.
-/
import Derived.Test.YtcpmjkefbjbhpaaGreatDoorSw22
import Derived.Test.YtcpmjkefbjbhpaaGreatDoorSw13
namespace Go.Proofs.YtcpmjkefbjbhpaaGreatDoor
open Go Go.RowKit GlyphMath LexMath TreeMath
theorem stay5 {W W':World} {a0 a1 a2 a3 a4:Addr} {v0 v1 v2 v3 v4:Value} (h:W.cell? a0=some v0∧W.cell? a1=some v1∧W.cell? a2=some v2∧W.cell? a3=some v3∧W.cell? a4=some v4) (hb:Below W.heap.size W W'):
    W'.cell? a0=some v0∧W'.cell? a1=some v1∧W'.cell? a2=some v2∧W'.cell? a3=some v3∧W'.cell? a4=some v4:=
  ⟨cell_below h.1 hb,cell_below h.2.1 hb,cell_below h.2.2.1 hb,cell_below h.2.2.2.1 hb,cell_below h.2.2.2.2 hb⟩
theorem stay2 {W W':World} {a0 a1:Addr} {v0 v1:Value} (h:W.cell? a0=some v0∧W.cell? a1=some v1) (hb:Below W.heap.size W W'):W'.cell? a0=some v0∧W'.cell? a1=some v1:=⟨cell_below h.1 hb,cell_below h.2 hb⟩
theorem side_far {f:Pt→Bool} {a:Option Pt} {q:Pt} {r:List Pt} {R:Bool} (h:sideT f a (q::r)=R) (hq:(q.kind==1)=false):(f q&&sideT f (some q) r)=R:=by
  rw[sideT]at h
  have e:(a.any fun x=>oneT x q)=false:=by
    cases a with
    |none=>rfl
    |some x=>show oneT x q=false;unfold oneT;rw[hq];simp
  rw[e]at h
  simpa using h
set_option linter.unusedSimpArgs false in
set_option maxHeartbeats 1000000 in
set_option maxRecDepth 100000 in
theorem rparts_next {k d:Nat} (hk:k+d=20) (hR:d<20→RPartsDo k (d+1) true) (wi:Bool) (hwi:wi=decide (0<d)):RPartsDo (k+1) d wi:=by
  intro ps v w hv hs hT;obtain⟨p,c,rfl,hlen,hat⟩:=hv.is
  have HP:=yH (show ∀(q:Pt) (u:Value) (W:World),PsAt W u q.word→(q.text.length≤1048576∧Small q.word)→Tabs W→Calls Tryz.prog 79 #[partV q u,.int .i64 (d:Int)] W fun e w'=>e= .returned (.bool (varT (rowT k) q))∧Below W.heap.size W w' from fun q u W hu hw hT=>by
    rcases Nat.lt_or_ge d 20 with h|h
    · exact rparam_in hk h (hR h) q u W hu hw.2 hw.1 hT
    · obtain rfl:d=20:=by omega
      obtain rfl:k=0:=by omega
      exact rparam_end q u W hu hw.1 hT)
  have HAT:=yH hat;have HSM:=yH (fun q (hq:q∈ps)=>hs.get hq);have HT:=yH hT;obtain⟨f,hf⟩:∃f,partT (rowT k) wi=f:=⟨_,rfl⟩;have hkd:decide (k<20)=wi:=(by rw[hwi];exact decide_eq_decide.2 (by omega));obtain⟨R,hRR⟩:∃R,rowT (k+1) ps=R:=⟨_,rfl⟩;have HRR:=yH (show sideT f none ps=R from by rw[←hRR,←hf,rowT,hkd]);rw[hRR];have HF:=yH (show ∀q,f q=partT (rowT k) wi q from fun q=>by rw[←hf]);obtain⟨N,hN⟩:∃N,ps.length=N:=⟨_,rfl⟩;have HN:=yH hN;have hN0:(N:Int)≤2^63-1:=(by unfold maxLen at hlen;omega);rw[hN];clear hf hkd hRR hv hs hlen hat hk hR hN hwi hT;go_enter Tryz.func36,Tryz.ntmps36;go_wp2_with fail
  go_loopw [7] (fun i wr=> ∃j,j≤N∧i= .int .i64 (j:Int)∧Below w.heap.size w wr∧sideT f (prevO ps j) (ps.drop j)=R) (fun i _=>N-(intOf i).toNat)
  case atStart=>exact⟨0,by omega,rfl,Below.refl _ _,HRR.out⟩
  case round=>
    obtain⟨j,hj,rfl,hb,hsd⟩:=hrel
    by_cases hlt:j<N
    · obtain⟨q,hq⟩:∃x,ps[j]? =some x:=⟨_,List.getElem?_eq_getElem (by rw[HN.out];exact hlt)⟩
      obtain⟨u,hsp,hu⟩:=HAT.out j q hq;have hsp:=hsp.below hb;have hu:=hu.stays hb;obtain⟨b,o,rfl,hc⟩:=hsp;have c0:=hc 0 _ rfl;have c1:=hc 1 _ rfl;have c2:=hc 2 _ rfl;have c3:=hc 3 _ rfl;have c4:=hc 4 _ rfl;rw[drop_get hq]at hsd;have HSD:=yH hsd;have HB:=yH hb;have hj0:(j:Int)<(N:Int):=(by omega);have HU:=yH hu;have HTR:=yH (HT.out.below hb);obtain⟨up,uc,rfl, -, -⟩:=hu.is;obtain⟨ul,hul⟩:∃ul,q.word.length=ul:=⟨_,rfl⟩;have HUL:=yH hul;rw[hul]at c3 HU;have HJ:=yH hlt;have HQ:=yH hq;have HQS:=yH (HSM.out q (List.mem_of_getElem? hq));clear hc hsd hb hlt hj hul hq hu;unfold txt at c1 c2;rw[Nat.add_zero]at c0;obtain⟨kd,tx,op,wd,qq⟩:=q;simp only at c0 c1 c2 c3 c4;obtain⟨s,hss⟩:∃s,T tx=s:=⟨_,rfl⟩;obtain⟨s2,hs2⟩:∃s,T op=s:=⟨_,rfl⟩;replace c1:wr.cell? ⟨b,o+j*5+1,none⟩=some (.string s):=(by rw[←hss];exact c1);replace c2:wr.cell? ⟨b,o+j*5+2,none⟩=some (.string s2):=(by rw[←hs2];exact c2);have HSS:=yH (And.intro hss hs2);clear hss hs2
      by_cases k1:kd=1
      · subst k1
        have HC5:=yH (show wr.cell? ⟨b,o+j*5,none⟩=some (.int .i64 1)∧wr.cell? ⟨b,o+j*5+1,none⟩=some (.string s)∧wr.cell? ⟨b,o+j*5+2,none⟩=some (.string s2)∧wr.cell? ⟨b,o+j*5+3,none⟩=some (.slice up ul uc)∧wr.cell? ⟨b,o+j*5+4,none⟩=some (.bool qq)from ⟨c0,c1,c2,c3,c4⟩);obtain⟨P,hP⟩:∃P,f ⟨1,tx,op,wd,qq⟩=P:=⟨_,rfl⟩
        have HLQ:=yH (show Calls Tryz.prog 78 #[.agg #[.int .i64 1,.string s,.string s2,.slice up ul uc,.bool qq],.bool wi] wr.drew fun e w'=>e= .returned (.bool P)∧Below wr.heap.size wr w' from by
          rw[←hP,HF.out,←HSS.out.1,←HSS.out.2,←HUL.out];refine(trlit_any ⟨1,tx,op,wd,qq⟩ up uc wi wr.drew HQS.out.1 (HTR.out.below (below_drew1 _ _))).mono ?_;rintro e w' ⟨rfl,hb⟩
          exact⟨rfl,(below_drew1 _ _).trans hb⟩)
        have HSP:=yH (show(P&&(!((prevO ps j).any fun x=>oneT x ⟨1,tx,op,wd,qq⟩)&&sideT f (some ⟨1,tx,op,wd,qq⟩) (ps.drop (j+1))))=R from by rw[←hP];exact HSD.out);clear hP HSD
        cases P
        · have HRf:=yH (show false=R from HSP.out)
          go_wp2_with fail;refine wp_region_held_drew (S:=(fun W=>W.cell? ⟨b,o+j*5,none⟩=some (.int .i64 1)∧W.cell? ⟨b,o+j*5+1,none⟩=some (.string s)∧W.cell? ⟨b,o+j*5+2,none⟩=some (.string s2)∧W.cell? ⟨b,o+j*5+3,none⟩=some (.slice up ul uc)∧W.cell? ⟨b,o+j*5+4,none⟩=some (.bool qq))) (by kernel_rfl) ?_ (fun hHeld=> ?_)
          · exact HC5.out
          refine tkW 0 22 rfl rfl ?_ ?_ ?_;rotate_left
          · intro _ _;go_simp<;>(with_reducible rfl)
          simp only[pS];refine tkW 1 23 rfl rfl ?_ ?_ ?_;rotate_left
          · intro _ _;go_simp<;>(with_reducible rfl)
          simp only[pS];refine tkW 2 24 rfl rfl ?_ ?_ ?_;rotate_left
          · intro _ _;go_simp<;>(with_reducible rfl)
          simp only[pS];refine tkW 3 25 rfl rfl ?_ ?_ ?_;rotate_left
          · intro _ _;go_simp<;>(with_reducible rfl)
          simp only[pS];refine tkW 4 26 rfl rfl ?_ ?_ ?_;rotate_left
          · intro _ _;go_simp<;>(with_reducible rfl)
          simp only[pS];refine cW 5 rfl (fun K hK=> ?_);go_simp
          go_wp2_with ((go_at_call 78;refine HLQ.out.mono ?_;rintro e w2 ⟨rfl,hb⟩;have HB2:=yH hb;have HPC:=yH (stay5 HC5.out hb);clear hb))
          refine hK.out _ _ ?_ (fun hHeld=> ?_)
          · exact HPC.out
          clear hK K;refine tkW 6 28 rfl rfl ?_ ?_ ?_;rotate_left
          · intro _ _;go_simp<;>(with_reducible rfl)
          simp only[pS];refine takeN (i:=7) (k:=29) rfl (by kernel_rfl) (by kernel_rfl) (by kernel_rfl) (by kernel_rfl) (fun _ _ _ h=>h) (by rfl) (by assumption) ?_;simp only[pS];refine takeN (i:=8) (k:=30) rfl (by kernel_rfl) (by kernel_rfl) (by kernel_rfl) (by kernel_rfl) (fun _ _ _ h=>h) (by rfl) (by assumption) ?_;simp only[pS];refine takeN (i:=9) (k:=31) rfl (by kernel_rfl) (by kernel_rfl) (by kernel_rfl) (by kernel_rfl) (fun _ _ _ h=>h) (by rfl) (by assumption) ?_;simp only[pS];refine takeN (i:=10) (k:=32) rfl (by kernel_rfl) (by kernel_rfl) (by kernel_rfl) (by kernel_rfl) (fun _ _ _ h=>h) (by rfl) (by assumption) ?_;simp only[pS];refine takeN (i:=11) (k:=33) rfl (by kernel_rfl) (by kernel_rfl) (by kernel_rfl) (by kernel_rfl) (fun _ _ _ h=>h) (by rfl) (by assumption) ?_;simp only[pS];refine takeN (i:=12) (k:=34) rfl (by kernel_rfl) (by kernel_rfl) (by kernel_rfl) (by kernel_rfl) (fun _ _ _ h=>h) (by rfl) (by assumption) ?_;simp only[pS];refine takeN (i:=13) (k:=35) rfl (by kernel_rfl) (by kernel_rfl) (by kernel_rfl) (by kernel_rfl) (fun _ _ _ h=>h) (by rfl) (by assumption) ?_;simp only[pS];refine takeN (i:=14) (k:=36) rfl (by kernel_rfl) (by kernel_rfl) (by kernel_rfl) (by kernel_rfl) (fun _ _ _ h=>h) (by rfl) (by assumption) ?_;simp only[pS];refine takeN (i:=15) (k:=37) rfl (by kernel_rfl) (by kernel_rfl) (by kernel_rfl) (by kernel_rfl) (fun _ _ _ h=>h) (by rfl) (by assumption) ?_;simp only[pS];refine takeN (i:=16) (k:=38) rfl (by kernel_rfl) (by kernel_rfl) (by kernel_rfl) (by kernel_rfl) (fun _ _ _ h=>h) (by rfl) (by assumption) ?_;simp only[pS];refine takeN (i:=17) (k:=39) rfl (by kernel_rfl) (by kernel_rfl) (by kernel_rfl) (by kernel_rfl) (fun _ _ _ h=>h) (by rfl) (by assumption) ?_;simp only[pS];refine takeN (i:=18) (k:=40) rfl (by kernel_rfl) (by kernel_rfl) (by kernel_rfl) (by kernel_rfl) (fun _ _ _ h=>h) (by rfl) (by assumption) ?_;simp only[pS];refine takeN (i:=19) (k:=41) rfl (by kernel_rfl) (by kernel_rfl) (by kernel_rfl) (by kernel_rfl) (fun _ _ _ h=>h) (by rfl) (by assumption) ?_;simp only[pS];refine takeN (i:=20) (k:=42) rfl (by kernel_rfl) (by kernel_rfl) (by kernel_rfl) (by kernel_rfl) (fun _ _ _ h=>h) (by rfl) (by assumption) ?_;simp only[pS];refine takeN (i:=21) (k:=43) rfl (by kernel_rfl) (by kernel_rfl) (by kernel_rfl) (by kernel_rfl) (fun _ _ _ h=>h) (by rfl) (by assumption) ?_;simp only[pS];refine takeN (i:=22) (k:=44) rfl (by kernel_rfl) (by kernel_rfl) (by kernel_rfl) (by kernel_rfl) (fun _ _ _ h=>h) (by rfl) (by assumption) ?_;simp only[pS];refine takeN (i:=23) (k:=45) rfl (by kernel_rfl) (by kernel_rfl) (by kernel_rfl) (by kernel_rfl) (fun _ _ _ h=>h) (by rfl) (by assumption) ?_;simp only[pS];refine takeN (i:=24) (k:=46) rfl (by kernel_rfl) (by kernel_rfl) (by kernel_rfl) (by kernel_rfl) (fun _ _ _ h=>h) (by rfl) (by assumption) ?_;simp only[pS];refine takeN (i:=25) (k:=47) rfl (by kernel_rfl) (by kernel_rfl) (by kernel_rfl) (by kernel_rfl) (fun _ _ _ h=>h) (by rfl) (by assumption) ?_;simp only[pS];refine takeN (i:=26) (k:=48) rfl (by kernel_rfl) (by kernel_rfl) (by kernel_rfl) (by kernel_rfl) (fun _ _ _ h=>h) (by rfl) (by assumption) ?_;simp only[pS];refine takeN (i:=27) (k:=49) rfl (by kernel_rfl) (by kernel_rfl) (by kernel_rfl) (by kernel_rfl) (fun _ _ _ h=>h) (by rfl) (by assumption) ?_;simp only[pS];refine takeN (i:=28) (k:=50) rfl (by kernel_rfl) (by kernel_rfl) (by kernel_rfl) (by kernel_rfl) (fun _ _ _ h=>h) (by rfl) (by assumption) ?_;simp only[pS];refine takeN (i:=29) (k:=51) rfl (by kernel_rfl) (by kernel_rfl) (by kernel_rfl) (by kernel_rfl) (fun _ _ _ h=>h) (by rfl) (by assumption) ?_;simp only[pS];refine takeN (i:=30) (k:=52) rfl (by kernel_rfl) (by kernel_rfl) (by kernel_rfl) (by kernel_rfl) (fun _ _ _ h=>h) (by rfl) (by assumption) ?_;simp only[pS];refine takeN (i:=31) (k:=53) rfl (by kernel_rfl) (by kernel_rfl) (by kernel_rfl) (by kernel_rfl) (fun _ _ _ h=>h) (by rfl) (by assumption) ?_;simp only[pS];refine tkW 32 54 rfl rfl ?_ ?_ ?_;rotate_left
          · intro _ _;go_simp<;>(with_reducible rfl)
          simp only[pS];refine tkW 33 8 rfl rfl ?_ ?_ ?_;rotate_left
          · intro _ _;go_simp<;>(with_reducible rfl)
          simp only[pS];refine wpAnyH_done (by kernel_rfl) ?_ _;go_wp2_with fail;go_ret;exact⟨ret_bool HRf.out,HB.out.trans (HB2.out.mono HB.out.size)⟩
        · rcases Nat.eq_zero_or_pos j with hj|hj
          · have HNX:=yH (show sideT f (some ⟨1,tx,op,wd,qq⟩) (ps.drop (j+1))=R from by have:=HSP.out;rw[show prevO ps j=none from by rw[hj];rfl]at this;exact this)
            have hjz:((j:Int)==0)=true:=(by rw[hj];rfl);clear hj;go_wp2_with fail;refine wp_region_held_drew (S:=(fun W=>W.cell? ⟨b,o+j*5,none⟩=some (.int .i64 1)∧W.cell? ⟨b,o+j*5+1,none⟩=some (.string s)∧W.cell? ⟨b,o+j*5+2,none⟩=some (.string s2)∧W.cell? ⟨b,o+j*5+3,none⟩=some (.slice up ul uc)∧W.cell? ⟨b,o+j*5+4,none⟩=some (.bool qq))) (by kernel_rfl) ?_ (fun hHeld=> ?_)
            · exact HC5.out
            refine tkW 0 22 rfl rfl ?_ ?_ ?_;rotate_left
            · intro _ _;go_simp<;>(with_reducible rfl)
            simp only[pS];refine tkW 1 23 rfl rfl ?_ ?_ ?_;rotate_left
            · intro _ _;go_simp<;>(with_reducible rfl)
            simp only[pS];refine tkW 2 24 rfl rfl ?_ ?_ ?_;rotate_left
            · intro _ _;go_simp<;>(with_reducible rfl)
            simp only[pS];refine tkW 3 25 rfl rfl ?_ ?_ ?_;rotate_left
            · intro _ _;go_simp<;>(with_reducible rfl)
            simp only[pS];refine tkW 4 26 rfl rfl ?_ ?_ ?_;rotate_left
            · intro _ _;go_simp<;>(with_reducible rfl)
            simp only[pS];refine cW 5 rfl (fun K hK=> ?_);go_simp
            go_wp2_with ((go_at_call 78;refine HLQ.out.mono ?_;rintro e w2 ⟨rfl,hb⟩;have HB2:=yH hb;have HPC:=yH (stay5 HC5.out hb);clear hb))
            refine hK.out _ _ ?_ (fun hHeld=> ?_)
            · exact HPC.out
            clear hK K;refine tkW 6 28 rfl rfl ?_ ?_ ?_;rotate_left
            · intro _ _;go_simp<;>(with_reducible rfl)
            simp only[pS];refine tkW 7 29 rfl rfl ?_ ?_ ?_;rotate_left
            · intro _ _;go_simp<;>(with_reducible rfl)
            simp only[pS];refine tkW 8 30 rfl rfl ?_ ?_ ?_;rotate_left
            · intro _ _;go_simp<;>(with_reducible rfl)
            simp only[pS];refine tkW 9 31 rfl rfl ?_ ?_ ?_;rotate_left
            · intro _ _;go_simp<;>(with_reducible rfl)
            simp only[pS];refine takeN (i:=10) (k:=32) rfl (by kernel_rfl) (by kernel_rfl) (by kernel_rfl) (by kernel_rfl) (fun _ _ _ h=>h) (by rfl) (by assumption) ?_;simp only[pS];refine takeN (i:=11) (k:=33) rfl (by kernel_rfl) (by kernel_rfl) (by kernel_rfl) (by kernel_rfl) (fun _ _ _ h=>h) (by rfl) (by assumption) ?_;simp only[pS];refine takeN (i:=12) (k:=34) rfl (by kernel_rfl) (by kernel_rfl) (by kernel_rfl) (by kernel_rfl) (fun _ _ _ h=>h) (by rfl) (by assumption) ?_;simp only[pS];refine takeN (i:=13) (k:=35) rfl (by kernel_rfl) (by kernel_rfl) (by kernel_rfl) (by kernel_rfl) (fun _ _ _ h=>h) (by rfl) (by assumption) ?_;simp only[pS];refine takeN (i:=14) (k:=36) rfl (by kernel_rfl) (by kernel_rfl) (by kernel_rfl) (by kernel_rfl) (fun _ _ _ h=>h) (by rfl) (by assumption) ?_;simp only[pS];refine takeN (i:=15) (k:=37) rfl (by kernel_rfl) (by kernel_rfl) (by kernel_rfl) (by kernel_rfl) (fun _ _ _ h=>h) (by rfl) (by assumption) ?_;simp only[pS];refine takeN (i:=16) (k:=38) rfl (by kernel_rfl) (by kernel_rfl) (by kernel_rfl) (by kernel_rfl) (fun _ _ _ h=>h) (by rfl) (by assumption) ?_;simp only[pS];refine tkW 17 39 rfl rfl ?_ ?_ ?_;rotate_left
            · intro _ _;go_simp<;>(with_reducible rfl)
            simp only[pS];refine tkW 18 40 rfl rfl ?_ ?_ ?_;rotate_left
            · intro _ _;go_simp<;>(with_reducible rfl)
            simp only[pS];refine takeN (i:=19) (k:=41) rfl (by kernel_rfl) (by kernel_rfl) (by kernel_rfl) (by kernel_rfl) (fun _ _ _ h=>h) (by rfl) (by assumption) ?_;simp only[pS];refine takeN (i:=20) (k:=42) rfl (by kernel_rfl) (by kernel_rfl) (by kernel_rfl) (by kernel_rfl) (fun _ _ _ h=>h) (by rfl) (by assumption) ?_;simp only[pS];refine takeN (i:=21) (k:=43) rfl (by kernel_rfl) (by kernel_rfl) (by kernel_rfl) (by kernel_rfl) (fun _ _ _ h=>h) (by rfl) (by assumption) ?_;simp only[pS];refine takeN (i:=22) (k:=44) rfl (by kernel_rfl) (by kernel_rfl) (by kernel_rfl) (by kernel_rfl) (fun _ _ _ h=>h) (by rfl) (by assumption) ?_;simp only[pS];refine takeN (i:=23) (k:=45) rfl (by kernel_rfl) (by kernel_rfl) (by kernel_rfl) (by kernel_rfl) (fun _ _ _ h=>h) (by rfl) (by assumption) ?_;simp only[pS];refine takeN (i:=24) (k:=46) rfl (by kernel_rfl) (by kernel_rfl) (by kernel_rfl) (by kernel_rfl) (fun _ _ _ h=>h) (by rfl) (by assumption) ?_;simp only[pS];refine takeN (i:=25) (k:=47) rfl (by kernel_rfl) (by kernel_rfl) (by kernel_rfl) (by kernel_rfl) (fun _ _ _ h=>h) (by rfl) (by assumption) ?_;simp only[pS];refine takeN (i:=26) (k:=48) rfl (by kernel_rfl) (by kernel_rfl) (by kernel_rfl) (by kernel_rfl) (fun _ _ _ h=>h) (by rfl) (by assumption) ?_;simp only[pS];refine takeN (i:=27) (k:=49) rfl (by kernel_rfl) (by kernel_rfl) (by kernel_rfl) (by kernel_rfl) (fun _ _ _ h=>h) (by rfl) (by assumption) ?_;simp only[pS];refine takeN (i:=28) (k:=50) rfl (by kernel_rfl) (by kernel_rfl) (by kernel_rfl) (by kernel_rfl) (fun _ _ _ h=>h) (by rfl) (by assumption) ?_;simp only[pS];refine takeN (i:=29) (k:=51) rfl (by kernel_rfl) (by kernel_rfl) (by kernel_rfl) (by kernel_rfl) (fun _ _ _ h=>h) (by rfl) (by assumption) ?_;simp only[pS];refine takeN (i:=30) (k:=52) rfl (by kernel_rfl) (by kernel_rfl) (by kernel_rfl) (by kernel_rfl) (fun _ _ _ h=>h) (by rfl) (by assumption) ?_;simp only[pS];refine tkW 31 53 rfl rfl ?_ ?_ ?_;rotate_left
            · intro _ _;go_simp<;>(with_reducible rfl)
            simp only[pS];refine tkW 32 54 rfl rfl ?_ ?_ ?_;rotate_left
            · intro _ _;go_simp<;>(with_reducible rfl)
            simp only[pS];refine tkW 33 8 rfl rfl ?_ ?_ ?_;rotate_left
            · intro _ _;go_simp<;>(with_reducible rfl)
            simp only[pS];refine wpAnyH_done (by kernel_rfl) ?_ _;go_wp2_with fail;exact⟨⟨j+1,by have:=HJ.out;omega,by go_num,HB.out.trans (HB2.out.mono HB.out.size),by show sideT f (ps[j]?) _=R;rw[HQ.out];exact HNX.out⟩,by have:=HJ.out;simp[intOf];omega⟩
          · obtain⟨m,hm⟩:∃m,j=m+1:=⟨j-1,by omega⟩
            obtain⟨x,hx⟩:∃x,ps[m]? =some x:=⟨_,List.getElem?_eq_getElem (by have:=HN.out;have:=HJ.out;omega)⟩;obtain⟨v,hsp,hv⟩:=HAT.out m x hx;have hsp:=hsp.below HB.out;obtain⟨b',o',hbo,hc⟩:=hsp
            obtain⟨rfl,rfl⟩:b=b'∧o=o':=by
              simp only[Option.some.injEq,Addr.mk.injEq,and_true]at hbo;exact hbo
            obtain⟨kx,tx',ox,wx,qx⟩:=x;have e0:wr.cell? ⟨b,o+m*5,none⟩=some (.int .i64 kx):=hc 0 _ rfl;have e4:wr.cell? ⟨b,o+m*5+4,none⟩=some (.bool qx):=hc 4 _ rfl
            have HSO:=yH (show(!oneT ⟨kx,tx',ox,wx,qx⟩ ⟨1,tx,op,wd,qq⟩&&sideT f (some ⟨1,tx,op,wd,qq⟩) (ps.drop (j+1)))=R from by
              have:=HSP.out;rw[hm]at this ⊢;rw[show prevO ps (m+1)=ps[m]? from rfl,hx]at this
              exact this)
            have hji:((j:Int)==0)=false:=int_ne (by omega)
            have hwr:IntKind.i64.wrap ((j:Int)-1)=(m:Int):=by
              have e:(m:Int)=(j:Int)-1:=(by omega);rw[e];exact IntWalk.i64_in _ ⟨by omega,by omega⟩
            have hm0:(0:Int)≤(m:Int):=(by omega);have hmn:(m:Int)<(N:Int):=(by omega);have HC5:=yH (And.intro HC5.out (And.intro e0 e4));clear hc hbo hx hv hm hj
            by_cases hkx:kx=1
            · subst hkx
              rcases Bool.eq_false_or_eq_true qx with h1|h1<;>rcases Bool.eq_false_or_eq_true qq with h2|h2<;>subst h1<;>subst h2
              · have HRf:=yH (show false=R from HSO.out)
                go_wp2_with fail;refine wp_region_held_drew (S:=(fun W=>(W.cell? ⟨b,o+j*5,none⟩=some (.int .i64 1)∧W.cell? ⟨b,o+j*5+1,none⟩=some (.string s)∧W.cell? ⟨b,o+j*5+2,none⟩=some (.string s2)∧W.cell? ⟨b,o+j*5+3,none⟩=some (.slice up ul uc)∧W.cell? ⟨b,o+j*5+4,none⟩=some (.bool true))∧W.cell? ⟨b,o+m*5,none⟩=some (.int .i64 1)∧W.cell? ⟨b,o+m*5+4,none⟩=some (.bool true))) (by kernel_rfl) ?_ (fun hHeld=> ?_)
                · exact HC5.out
                refine tkW 0 22 rfl rfl ?_ ?_ ?_;rotate_left
                · intro _ _;go_simp<;>(with_reducible rfl)
                simp only[pS];refine tkW 1 23 rfl rfl ?_ ?_ ?_;rotate_left
                · intro _ _;go_simp<;>(with_reducible rfl)
                simp only[pS];refine tkW 2 24 rfl rfl ?_ ?_ ?_;rotate_left
                · intro _ _;go_simp<;>(with_reducible rfl)
                simp only[pS];refine tkW 3 25 rfl rfl ?_ ?_ ?_;rotate_left
                · intro _ _;go_simp<;>(with_reducible rfl)
                simp only[pS];refine tkW 4 26 rfl rfl ?_ ?_ ?_;rotate_left
                · intro _ _;go_simp<;>(with_reducible rfl)
                simp only[pS];refine cW 5 rfl (fun K hK=> ?_);go_simp
                go_wp2_with ((go_at_call 78;refine HLQ.out.mono ?_;rintro e w2 ⟨rfl,hb⟩;have HB2:=yH hb;have HPC:=yH (And.intro (stay5 HC5.out.1 hb) (stay2 HC5.out.2 hb));clear hb))
                refine hK.out _ _ ?_ (fun hHeld=> ?_)
                · exact HPC.out
                clear hK K;refine tkW 6 28 rfl rfl ?_ ?_ ?_;rotate_left
                · intro _ _;go_simp<;>(with_reducible rfl)
                simp only[pS];refine tkW 7 29 rfl rfl ?_ ?_ ?_;rotate_left
                · intro _ _;go_simp<;>(with_reducible rfl)
                simp only[pS];refine tkW 8 30 rfl rfl ?_ ?_ ?_;rotate_left
                · intro _ _;go_simp<;>(with_reducible rfl)
                simp only[pS];refine tkW 9 31 rfl rfl ?_ ?_ ?_;rotate_left
                · intro _ _;go_simp<;>(with_reducible rfl)
                simp only[pS];refine tkW 10 32 rfl rfl ?_ ?_ ?_;rotate_left
                · intro _ _;go_simp<;>(with_reducible rfl)
                simp only[pS];refine tkW 11 33 rfl rfl ?_ ?_ ?_;rotate_left
                · intro _ _;go_simp<;>(with_reducible rfl)
                simp only[pS];refine tkW 12 34 rfl rfl ?_ ?_ ?_;rotate_left
                · intro _ _;go_simp<;>(with_reducible rfl)
                simp only[pS];refine tkW 13 35 rfl rfl ?_ ?_ ?_;rotate_left
                · intro _ _;go_simp<;>(with_reducible rfl)
                simp only[pS];refine tkW 14 36 rfl rfl ?_ ?_ ?_;rotate_left
                · intro _ _;go_simp<;>(with_reducible rfl)
                simp only[pS];refine tkW 15 37 rfl rfl ?_ ?_ ?_;rotate_left
                · intro _ _;go_simp<;>(with_reducible rfl)
                simp only[pS];refine tkW 16 38 rfl rfl ?_ ?_ ?_;rotate_left
                · intro _ _;go_simp<;>(with_reducible rfl)
                simp only[pS];refine tkW 17 39 rfl rfl ?_ ?_ ?_;rotate_left
                · intro _ _;go_simp<;>(with_reducible rfl)
                simp only[pS];refine tkW 18 40 rfl rfl ?_ ?_ ?_;rotate_left
                · intro _ _;go_simp<;>(with_reducible rfl)
                simp only[pS];refine tkW 19 41 rfl rfl ?_ ?_ ?_;rotate_left
                · intro _ _;go_simp<;>(with_reducible rfl)
                simp only[pS];refine tkW 20 42 rfl rfl ?_ ?_ ?_;rotate_left
                · intro _ _;go_simp<;>(with_reducible rfl)
                simp only[pS];refine tkW 21 43 rfl rfl ?_ ?_ ?_;rotate_left
                · intro _ _;go_simp<;>(with_reducible rfl)
                simp only[pS];refine tkW 22 44 rfl rfl ?_ ?_ ?_;rotate_left
                · intro _ _;go_simp<;>(with_reducible rfl)
                simp only[pS];refine tkW 23 45 rfl rfl ?_ ?_ ?_;rotate_left
                · intro _ _;go_simp<;>(with_reducible rfl)
                simp only[pS];refine tkW 24 46 rfl rfl ?_ ?_ ?_;rotate_left
                · intro _ _;go_simp<;>(with_reducible rfl)
                simp only[pS];refine tkW 25 47 rfl rfl ?_ ?_ ?_;rotate_left
                · intro _ _;go_simp<;>(with_reducible rfl)
                simp only[pS];refine tkW 26 48 rfl rfl ?_ ?_ ?_;rotate_left
                · intro _ _;go_simp<;>(with_reducible rfl)
                simp only[pS];refine tkW 27 49 rfl rfl ?_ ?_ ?_;rotate_left
                · intro _ _;go_simp<;>(with_reducible rfl)
                simp only[pS];refine tkW 28 50 rfl rfl ?_ ?_ ?_;rotate_left
                · intro _ _;go_simp<;>(with_reducible rfl)
                simp only[pS];refine tkW 29 51 rfl rfl ?_ ?_ ?_;rotate_left
                · intro _ _;go_simp<;>(with_reducible rfl)
                simp only[pS];refine tkW 30 52 rfl rfl ?_ ?_ ?_;rotate_left
                · intro _ _;go_simp<;>(with_reducible rfl)
                simp only[pS];refine tkW 31 53 rfl rfl ?_ ?_ ?_;rotate_left
                · intro _ _;go_simp<;>(with_reducible rfl)
                simp only[pS];refine tkW 32 54 rfl rfl ?_ ?_ ?_;rotate_left
                · intro _ _;go_simp<;>(with_reducible rfl)
                simp only[pS];refine tkW 33 8 rfl rfl ?_ ?_ ?_;rotate_left
                · intro _ _;go_simp<;>(with_reducible rfl)
                simp only[pS];refine wpAnyH_done (by kernel_rfl) ?_ _;go_wp2_with fail;go_ret;exact⟨ret_bool HRf.out,HB.out.trans (HB2.out.mono HB.out.size)⟩
              · have HNX:=yH (show sideT f (some ⟨1,tx,op,wd,false⟩) (ps.drop (j+1))=R from HSO.out)
                go_wp2_with fail;refine wp_region_held_drew (S:=(fun W=>(W.cell? ⟨b,o+j*5,none⟩=some (.int .i64 1)∧W.cell? ⟨b,o+j*5+1,none⟩=some (.string s)∧W.cell? ⟨b,o+j*5+2,none⟩=some (.string s2)∧W.cell? ⟨b,o+j*5+3,none⟩=some (.slice up ul uc)∧W.cell? ⟨b,o+j*5+4,none⟩=some (.bool false))∧W.cell? ⟨b,o+m*5,none⟩=some (.int .i64 1)∧W.cell? ⟨b,o+m*5+4,none⟩=some (.bool true))) (by kernel_rfl) ?_ (fun hHeld=> ?_)
                · exact HC5.out
                refine tkW 0 22 rfl rfl ?_ ?_ ?_;rotate_left
                · intro _ _;go_simp<;>(with_reducible rfl)
                simp only[pS];refine tkW 1 23 rfl rfl ?_ ?_ ?_;rotate_left
                · intro _ _;go_simp<;>(with_reducible rfl)
                simp only[pS];refine tkW 2 24 rfl rfl ?_ ?_ ?_;rotate_left
                · intro _ _;go_simp<;>(with_reducible rfl)
                simp only[pS];refine tkW 3 25 rfl rfl ?_ ?_ ?_;rotate_left
                · intro _ _;go_simp<;>(with_reducible rfl)
                simp only[pS];refine tkW 4 26 rfl rfl ?_ ?_ ?_;rotate_left
                · intro _ _;go_simp<;>(with_reducible rfl)
                simp only[pS];refine cW 5 rfl (fun K hK=> ?_);go_simp
                go_wp2_with ((go_at_call 78;refine HLQ.out.mono ?_;rintro e w2 ⟨rfl,hb⟩;have HB2:=yH hb;have HPC:=yH (And.intro (stay5 HC5.out.1 hb) (stay2 HC5.out.2 hb));clear hb))
                refine hK.out _ _ ?_ (fun hHeld=> ?_)
                · exact HPC.out
                clear hK K;refine tkW 6 28 rfl rfl ?_ ?_ ?_;rotate_left
                · intro _ _;go_simp<;>(with_reducible rfl)
                simp only[pS];refine tkW 7 29 rfl rfl ?_ ?_ ?_;rotate_left
                · intro _ _;go_simp<;>(with_reducible rfl)
                simp only[pS];refine tkW 8 30 rfl rfl ?_ ?_ ?_;rotate_left
                · intro _ _;go_simp<;>(with_reducible rfl)
                simp only[pS];refine tkW 9 31 rfl rfl ?_ ?_ ?_;rotate_left
                · intro _ _;go_simp<;>(with_reducible rfl)
                simp only[pS];refine tkW 10 32 rfl rfl ?_ ?_ ?_;rotate_left
                · intro _ _;go_simp<;>(with_reducible rfl)
                simp only[pS];refine tkW 11 33 rfl rfl ?_ ?_ ?_;rotate_left
                · intro _ _;go_simp<;>(with_reducible rfl)
                simp only[pS];refine tkW 12 34 rfl rfl ?_ ?_ ?_;rotate_left
                · intro _ _;go_simp<;>(with_reducible rfl)
                simp only[pS];refine tkW 13 35 rfl rfl ?_ ?_ ?_;rotate_left
                · intro _ _;go_simp<;>(with_reducible rfl)
                simp only[pS];refine tkW 14 36 rfl rfl ?_ ?_ ?_;rotate_left
                · intro _ _;go_simp<;>(with_reducible rfl)
                simp only[pS];refine tkW 15 37 rfl rfl ?_ ?_ ?_;rotate_left
                · intro _ _;go_simp<;>(with_reducible rfl)
                simp only[pS];refine tkW 16 38 rfl rfl ?_ ?_ ?_;rotate_left
                · intro _ _;go_simp<;>(with_reducible rfl)
                simp only[pS];refine tkW 17 39 rfl rfl ?_ ?_ ?_;rotate_left
                · intro _ _;go_simp<;>(with_reducible rfl)
                simp only[pS];refine tkW 18 40 rfl rfl ?_ ?_ ?_;rotate_left
                · intro _ _;go_simp<;>(with_reducible rfl)
                simp only[pS];refine tkW 19 41 rfl rfl ?_ ?_ ?_;rotate_left
                · intro _ _;go_simp<;>(with_reducible rfl)
                simp only[pS];refine tkW 20 42 rfl rfl ?_ ?_ ?_;rotate_left
                · intro _ _;go_simp<;>(with_reducible rfl)
                simp only[pS];refine tkW 21 43 rfl rfl ?_ ?_ ?_;rotate_left
                · intro _ _;go_simp<;>(with_reducible rfl)
                simp only[pS];refine tkW 22 44 rfl rfl ?_ ?_ ?_;rotate_left
                · intro _ _;go_simp<;>(with_reducible rfl)
                simp only[pS];refine tkW 23 45 rfl rfl ?_ ?_ ?_;rotate_left
                · intro _ _;go_simp<;>(with_reducible rfl)
                simp only[pS];refine tkW 24 46 rfl rfl ?_ ?_ ?_;rotate_left
                · intro _ _;go_simp<;>(with_reducible rfl)
                simp only[pS];refine tkW 25 47 rfl rfl ?_ ?_ ?_;rotate_left
                · intro _ _;go_simp<;>(with_reducible rfl)
                simp only[pS];refine tkW 26 48 rfl rfl ?_ ?_ ?_;rotate_left
                · intro _ _;go_simp<;>(with_reducible rfl)
                simp only[pS];refine tkW 27 49 rfl rfl ?_ ?_ ?_;rotate_left
                · intro _ _;go_simp<;>(with_reducible rfl)
                simp only[pS];refine tkW 28 50 rfl rfl ?_ ?_ ?_;rotate_left
                · intro _ _;go_simp<;>(with_reducible rfl)
                simp only[pS];refine tkW 29 51 rfl rfl ?_ ?_ ?_;rotate_left
                · intro _ _;go_simp<;>(with_reducible rfl)
                simp only[pS];refine tkW 30 52 rfl rfl ?_ ?_ ?_;rotate_left
                · intro _ _;go_simp<;>(with_reducible rfl)
                simp only[pS];refine tkW 31 53 rfl rfl ?_ ?_ ?_;rotate_left
                · intro _ _;go_simp<;>(with_reducible rfl)
                simp only[pS];refine tkW 32 54 rfl rfl ?_ ?_ ?_;rotate_left
                · intro _ _;go_simp<;>(with_reducible rfl)
                simp only[pS];refine tkW 33 8 rfl rfl ?_ ?_ ?_;rotate_left
                · intro _ _;go_simp<;>(with_reducible rfl)
                simp only[pS];refine wpAnyH_done (by kernel_rfl) ?_ _;go_wp2_with fail;exact⟨⟨j+1,by have:=HJ.out;omega,by go_num,HB.out.trans (HB2.out.mono HB.out.size),by show sideT f (ps[j]?) _=R;rw[HQ.out];exact HNX.out⟩,by have:=HJ.out;simp[intOf];omega⟩
              · have HNX:=yH (show sideT f (some ⟨1,tx,op,wd,true⟩) (ps.drop (j+1))=R from HSO.out)
                go_wp2_with fail;refine wp_region_held_drew (S:=(fun W=>(W.cell? ⟨b,o+j*5,none⟩=some (.int .i64 1)∧W.cell? ⟨b,o+j*5+1,none⟩=some (.string s)∧W.cell? ⟨b,o+j*5+2,none⟩=some (.string s2)∧W.cell? ⟨b,o+j*5+3,none⟩=some (.slice up ul uc)∧W.cell? ⟨b,o+j*5+4,none⟩=some (.bool true))∧W.cell? ⟨b,o+m*5,none⟩=some (.int .i64 1)∧W.cell? ⟨b,o+m*5+4,none⟩=some (.bool false))) (by kernel_rfl) ?_ (fun hHeld=> ?_)
                · exact HC5.out
                refine tkW 0 22 rfl rfl ?_ ?_ ?_;rotate_left
                · intro _ _;go_simp<;>(with_reducible rfl)
                simp only[pS];refine tkW 1 23 rfl rfl ?_ ?_ ?_;rotate_left
                · intro _ _;go_simp<;>(with_reducible rfl)
                simp only[pS];refine tkW 2 24 rfl rfl ?_ ?_ ?_;rotate_left
                · intro _ _;go_simp<;>(with_reducible rfl)
                simp only[pS];refine tkW 3 25 rfl rfl ?_ ?_ ?_;rotate_left
                · intro _ _;go_simp<;>(with_reducible rfl)
                simp only[pS];refine tkW 4 26 rfl rfl ?_ ?_ ?_;rotate_left
                · intro _ _;go_simp<;>(with_reducible rfl)
                simp only[pS];refine cW 5 rfl (fun K hK=> ?_);go_simp
                go_wp2_with ((go_at_call 78;refine HLQ.out.mono ?_;rintro e w2 ⟨rfl,hb⟩;have HB2:=yH hb;have HPC:=yH (And.intro (stay5 HC5.out.1 hb) (stay2 HC5.out.2 hb));clear hb))
                refine hK.out _ _ ?_ (fun hHeld=> ?_)
                · exact HPC.out
                clear hK K;refine tkW 6 28 rfl rfl ?_ ?_ ?_;rotate_left
                · intro _ _;go_simp<;>(with_reducible rfl)
                simp only[pS];refine tkW 7 29 rfl rfl ?_ ?_ ?_;rotate_left
                · intro _ _;go_simp<;>(with_reducible rfl)
                simp only[pS];refine tkW 8 30 rfl rfl ?_ ?_ ?_;rotate_left
                · intro _ _;go_simp<;>(with_reducible rfl)
                simp only[pS];refine tkW 9 31 rfl rfl ?_ ?_ ?_;rotate_left
                · intro _ _;go_simp<;>(with_reducible rfl)
                simp only[pS];refine tkW 10 32 rfl rfl ?_ ?_ ?_;rotate_left
                · intro _ _;go_simp<;>(with_reducible rfl)
                simp only[pS];refine tkW 11 33 rfl rfl ?_ ?_ ?_;rotate_left
                · intro _ _;go_simp<;>(with_reducible rfl)
                simp only[pS];refine tkW 12 34 rfl rfl ?_ ?_ ?_;rotate_left
                · intro _ _;go_simp<;>(with_reducible rfl)
                simp only[pS];refine tkW 13 35 rfl rfl ?_ ?_ ?_;rotate_left
                · intro _ _;go_simp<;>(with_reducible rfl)
                simp only[pS];refine tkW 14 36 rfl rfl ?_ ?_ ?_;rotate_left
                · intro _ _;go_simp<;>(with_reducible rfl)
                simp only[pS];refine tkW 15 37 rfl rfl ?_ ?_ ?_;rotate_left
                · intro _ _;go_simp<;>(with_reducible rfl)
                simp only[pS];refine tkW 16 38 rfl rfl ?_ ?_ ?_;rotate_left
                · intro _ _;go_simp<;>(with_reducible rfl)
                simp only[pS];refine tkW 17 39 rfl rfl ?_ ?_ ?_;rotate_left
                · intro _ _;go_simp<;>(with_reducible rfl)
                simp only[pS];refine tkW 18 40 rfl rfl ?_ ?_ ?_;rotate_left
                · intro _ _;go_simp<;>(with_reducible rfl)
                simp only[pS];refine tkW 19 41 rfl rfl ?_ ?_ ?_;rotate_left
                · intro _ _;go_simp<;>(with_reducible rfl)
                simp only[pS];refine tkW 20 42 rfl rfl ?_ ?_ ?_;rotate_left
                · intro _ _;go_simp<;>(with_reducible rfl)
                simp only[pS];refine tkW 21 43 rfl rfl ?_ ?_ ?_;rotate_left
                · intro _ _;go_simp<;>(with_reducible rfl)
                simp only[pS];refine tkW 22 44 rfl rfl ?_ ?_ ?_;rotate_left
                · intro _ _;go_simp<;>(with_reducible rfl)
                simp only[pS];refine tkW 23 45 rfl rfl ?_ ?_ ?_;rotate_left
                · intro _ _;go_simp<;>(with_reducible rfl)
                simp only[pS];refine tkW 24 46 rfl rfl ?_ ?_ ?_;rotate_left
                · intro _ _;go_simp<;>(with_reducible rfl)
                simp only[pS];refine tkW 25 47 rfl rfl ?_ ?_ ?_;rotate_left
                · intro _ _;go_simp<;>(with_reducible rfl)
                simp only[pS];refine tkW 26 48 rfl rfl ?_ ?_ ?_;rotate_left
                · intro _ _;go_simp<;>(with_reducible rfl)
                simp only[pS];refine tkW 27 49 rfl rfl ?_ ?_ ?_;rotate_left
                · intro _ _;go_simp<;>(with_reducible rfl)
                simp only[pS];refine tkW 28 50 rfl rfl ?_ ?_ ?_;rotate_left
                · intro _ _;go_simp<;>(with_reducible rfl)
                simp only[pS];refine tkW 29 51 rfl rfl ?_ ?_ ?_;rotate_left
                · intro _ _;go_simp<;>(with_reducible rfl)
                simp only[pS];refine tkW 30 52 rfl rfl ?_ ?_ ?_;rotate_left
                · intro _ _;go_simp<;>(with_reducible rfl)
                simp only[pS];refine tkW 31 53 rfl rfl ?_ ?_ ?_;rotate_left
                · intro _ _;go_simp<;>(with_reducible rfl)
                simp only[pS];refine tkW 32 54 rfl rfl ?_ ?_ ?_;rotate_left
                · intro _ _;go_simp<;>(with_reducible rfl)
                simp only[pS];refine tkW 33 8 rfl rfl ?_ ?_ ?_;rotate_left
                · intro _ _;go_simp<;>(with_reducible rfl)
                simp only[pS];refine wpAnyH_done (by kernel_rfl) ?_ _;go_wp2_with fail;exact⟨⟨j+1,by have:=HJ.out;omega,by go_num,HB.out.trans (HB2.out.mono HB.out.size),by show sideT f (ps[j]?) _=R;rw[HQ.out];exact HNX.out⟩,by have:=HJ.out;simp[intOf];omega⟩
              · have HRf:=yH (show false=R from HSO.out)
                go_wp2_with fail;refine wp_region_held_drew (S:=(fun W=>(W.cell? ⟨b,o+j*5,none⟩=some (.int .i64 1)∧W.cell? ⟨b,o+j*5+1,none⟩=some (.string s)∧W.cell? ⟨b,o+j*5+2,none⟩=some (.string s2)∧W.cell? ⟨b,o+j*5+3,none⟩=some (.slice up ul uc)∧W.cell? ⟨b,o+j*5+4,none⟩=some (.bool false))∧W.cell? ⟨b,o+m*5,none⟩=some (.int .i64 1)∧W.cell? ⟨b,o+m*5+4,none⟩=some (.bool false))) (by kernel_rfl) ?_ (fun hHeld=> ?_)
                · exact HC5.out
                refine tkW 0 22 rfl rfl ?_ ?_ ?_;rotate_left
                · intro _ _;go_simp<;>(with_reducible rfl)
                simp only[pS];refine tkW 1 23 rfl rfl ?_ ?_ ?_;rotate_left
                · intro _ _;go_simp<;>(with_reducible rfl)
                simp only[pS];refine tkW 2 24 rfl rfl ?_ ?_ ?_;rotate_left
                · intro _ _;go_simp<;>(with_reducible rfl)
                simp only[pS];refine tkW 3 25 rfl rfl ?_ ?_ ?_;rotate_left
                · intro _ _;go_simp<;>(with_reducible rfl)
                simp only[pS];refine tkW 4 26 rfl rfl ?_ ?_ ?_;rotate_left
                · intro _ _;go_simp<;>(with_reducible rfl)
                simp only[pS];refine cW 5 rfl (fun K hK=> ?_);go_simp
                go_wp2_with ((go_at_call 78;refine HLQ.out.mono ?_;rintro e w2 ⟨rfl,hb⟩;have HB2:=yH hb;have HPC:=yH (And.intro (stay5 HC5.out.1 hb) (stay2 HC5.out.2 hb));clear hb))
                refine hK.out _ _ ?_ (fun hHeld=> ?_)
                · exact HPC.out
                clear hK K;refine tkW 6 28 rfl rfl ?_ ?_ ?_;rotate_left
                · intro _ _;go_simp<;>(with_reducible rfl)
                simp only[pS];refine tkW 7 29 rfl rfl ?_ ?_ ?_;rotate_left
                · intro _ _;go_simp<;>(with_reducible rfl)
                simp only[pS];refine tkW 8 30 rfl rfl ?_ ?_ ?_;rotate_left
                · intro _ _;go_simp<;>(with_reducible rfl)
                simp only[pS];refine tkW 9 31 rfl rfl ?_ ?_ ?_;rotate_left
                · intro _ _;go_simp<;>(with_reducible rfl)
                simp only[pS];refine tkW 10 32 rfl rfl ?_ ?_ ?_;rotate_left
                · intro _ _;go_simp<;>(with_reducible rfl)
                simp only[pS];refine tkW 11 33 rfl rfl ?_ ?_ ?_;rotate_left
                · intro _ _;go_simp<;>(with_reducible rfl)
                simp only[pS];refine tkW 12 34 rfl rfl ?_ ?_ ?_;rotate_left
                · intro _ _;go_simp<;>(with_reducible rfl)
                simp only[pS];refine tkW 13 35 rfl rfl ?_ ?_ ?_;rotate_left
                · intro _ _;go_simp<;>(with_reducible rfl)
                simp only[pS];refine tkW 14 36 rfl rfl ?_ ?_ ?_;rotate_left
                · intro _ _;go_simp<;>(with_reducible rfl)
                simp only[pS];refine tkW 15 37 rfl rfl ?_ ?_ ?_;rotate_left
                · intro _ _;go_simp<;>(with_reducible rfl)
                simp only[pS];refine tkW 16 38 rfl rfl ?_ ?_ ?_;rotate_left
                · intro _ _;go_simp<;>(with_reducible rfl)
                simp only[pS];refine tkW 17 39 rfl rfl ?_ ?_ ?_;rotate_left
                · intro _ _;go_simp<;>(with_reducible rfl)
                simp only[pS];refine tkW 18 40 rfl rfl ?_ ?_ ?_;rotate_left
                · intro _ _;go_simp<;>(with_reducible rfl)
                simp only[pS];refine tkW 19 41 rfl rfl ?_ ?_ ?_;rotate_left
                · intro _ _;go_simp<;>(with_reducible rfl)
                simp only[pS];refine tkW 20 42 rfl rfl ?_ ?_ ?_;rotate_left
                · intro _ _;go_simp<;>(with_reducible rfl)
                simp only[pS];refine tkW 21 43 rfl rfl ?_ ?_ ?_;rotate_left
                · intro _ _;go_simp<;>(with_reducible rfl)
                simp only[pS];refine tkW 22 44 rfl rfl ?_ ?_ ?_;rotate_left
                · intro _ _;go_simp<;>(with_reducible rfl)
                simp only[pS];refine tkW 23 45 rfl rfl ?_ ?_ ?_;rotate_left
                · intro _ _;go_simp<;>(with_reducible rfl)
                simp only[pS];refine tkW 24 46 rfl rfl ?_ ?_ ?_;rotate_left
                · intro _ _;go_simp<;>(with_reducible rfl)
                simp only[pS];refine tkW 25 47 rfl rfl ?_ ?_ ?_;rotate_left
                · intro _ _;go_simp<;>(with_reducible rfl)
                simp only[pS];refine tkW 26 48 rfl rfl ?_ ?_ ?_;rotate_left
                · intro _ _;go_simp<;>(with_reducible rfl)
                simp only[pS];refine tkW 27 49 rfl rfl ?_ ?_ ?_;rotate_left
                · intro _ _;go_simp<;>(with_reducible rfl)
                simp only[pS];refine tkW 28 50 rfl rfl ?_ ?_ ?_;rotate_left
                · intro _ _;go_simp<;>(with_reducible rfl)
                simp only[pS];refine tkW 29 51 rfl rfl ?_ ?_ ?_;rotate_left
                · intro _ _;go_simp<;>(with_reducible rfl)
                simp only[pS];refine tkW 30 52 rfl rfl ?_ ?_ ?_;rotate_left
                · intro _ _;go_simp<;>(with_reducible rfl)
                simp only[pS];refine tkW 31 53 rfl rfl ?_ ?_ ?_;rotate_left
                · intro _ _;go_simp<;>(with_reducible rfl)
                simp only[pS];refine tkW 32 54 rfl rfl ?_ ?_ ?_;rotate_left
                · intro _ _;go_simp<;>(with_reducible rfl)
                simp only[pS];refine tkW 33 8 rfl rfl ?_ ?_ ?_;rotate_left
                · intro _ _;go_simp<;>(with_reducible rfl)
                simp only[pS];refine wpAnyH_done (by kernel_rfl) ?_ _;go_wp2_with fail;go_ret;exact⟨ret_bool HRf.out,HB.out.trans (HB2.out.mono HB.out.size)⟩
            · have hkx1:(kx !=1)=true:=by simpa using hkx
              have HNX:=yH (show sideT f (some ⟨1,tx,op,wd,qq⟩) (ps.drop (j+1))=R from by
                have h1:(kx==1)=false:=int_ne hkx;have e:oneT ⟨kx,tx',ox,wx,qx⟩ ⟨1,tx,op,wd,qq⟩=false:=(by unfold oneT;simp only[h1,Bool.false_and]);have:=HSO.out;rw[e]at this
                exact this)
              clear hkx;go_wp2_with fail;refine wp_region_held_drew (S:=(fun W=>(W.cell? ⟨b,o+j*5,none⟩=some (.int .i64 1)∧W.cell? ⟨b,o+j*5+1,none⟩=some (.string s)∧W.cell? ⟨b,o+j*5+2,none⟩=some (.string s2)∧W.cell? ⟨b,o+j*5+3,none⟩=some (.slice up ul uc)∧W.cell? ⟨b,o+j*5+4,none⟩=some (.bool qq))∧W.cell? ⟨b,o+m*5,none⟩=some (.int .i64 kx)∧W.cell? ⟨b,o+m*5+4,none⟩=some (.bool qx))) (by kernel_rfl) ?_ (fun hHeld=> ?_)
              · exact HC5.out
              refine tkW 0 22 rfl rfl ?_ ?_ ?_;rotate_left
              · intro _ _;go_simp<;>(with_reducible rfl)
              simp only[pS];refine tkW 1 23 rfl rfl ?_ ?_ ?_;rotate_left
              · intro _ _;go_simp<;>(with_reducible rfl)
              simp only[pS];refine tkW 2 24 rfl rfl ?_ ?_ ?_;rotate_left
              · intro _ _;go_simp<;>(with_reducible rfl)
              simp only[pS];refine tkW 3 25 rfl rfl ?_ ?_ ?_;rotate_left
              · intro _ _;go_simp<;>(with_reducible rfl)
              simp only[pS];refine tkW 4 26 rfl rfl ?_ ?_ ?_;rotate_left
              · intro _ _;go_simp<;>(with_reducible rfl)
              simp only[pS];refine cW 5 rfl (fun K hK=> ?_);go_simp
              go_wp2_with ((go_at_call 78;refine HLQ.out.mono ?_;rintro e w2 ⟨rfl,hb⟩;have HB2:=yH hb;have HPC:=yH (And.intro (stay5 HC5.out.1 hb) (stay2 HC5.out.2 hb));clear hb))
              refine hK.out _ _ ?_ (fun hHeld=> ?_)
              · exact HPC.out
              clear hK K;refine tkW 6 28 rfl rfl ?_ ?_ ?_;rotate_left
              · intro _ _;go_simp<;>(with_reducible rfl)
              simp only[pS];refine tkW 7 29 rfl rfl ?_ ?_ ?_;rotate_left
              · intro _ _;go_simp<;>(with_reducible rfl)
              simp only[pS];refine tkW 8 30 rfl rfl ?_ ?_ ?_;rotate_left
              · intro _ _;go_simp<;>(with_reducible rfl)
              simp only[pS];refine tkW 9 31 rfl rfl ?_ ?_ ?_;rotate_left
              · intro _ _;go_simp<;>(with_reducible rfl)
              simp only[pS];refine tkW 10 32 rfl rfl ?_ ?_ ?_;rotate_left
              · intro _ _;go_simp<;>(with_reducible rfl)
              simp only[pS];refine tkW 11 33 rfl rfl ?_ ?_ ?_;rotate_left
              · intro _ _;go_simp<;>(with_reducible rfl)
              simp only[pS];refine tkW 12 34 rfl rfl ?_ ?_ ?_;rotate_left
              · intro _ _;go_simp<;>(with_reducible rfl)
              simp only[pS];refine tkW 13 35 rfl rfl ?_ ?_ ?_;rotate_left
              · intro _ _;go_simp<;>(with_reducible rfl)
              simp only[pS];refine tkW 14 36 rfl rfl ?_ ?_ ?_;rotate_left
              · intro _ _;go_simp<;>(with_reducible rfl)
              simp only[pS];refine tkW 15 37 rfl rfl ?_ ?_ ?_;rotate_left
              · intro _ _;go_simp<;>(with_reducible rfl)
              simp only[pS];refine tkW 16 38 rfl rfl ?_ ?_ ?_;rotate_left
              · intro _ _;go_simp<;>(with_reducible rfl)
              simp only[pS];refine tkW 17 39 rfl rfl ?_ ?_ ?_;rotate_left
              · intro _ _;go_simp<;>(with_reducible rfl)
              simp only[pS];refine tkW 18 40 rfl rfl ?_ ?_ ?_;rotate_left
              · intro _ _;go_simp<;>(with_reducible rfl)
              simp only[pS];refine takeN (i:=19) (k:=41) rfl (by kernel_rfl) (by kernel_rfl) (by kernel_rfl) (by kernel_rfl) (fun _ _ _ h=>h) (by rfl) (by assumption) ?_;simp only[pS];refine takeN (i:=20) (k:=42) rfl (by kernel_rfl) (by kernel_rfl) (by kernel_rfl) (by kernel_rfl) (fun _ _ _ h=>h) (by rfl) (by assumption) ?_;simp only[pS];refine takeN (i:=21) (k:=43) rfl (by kernel_rfl) (by kernel_rfl) (by kernel_rfl) (by kernel_rfl) (fun _ _ _ h=>h) (by rfl) (by assumption) ?_;simp only[pS];refine takeN (i:=22) (k:=44) rfl (by kernel_rfl) (by kernel_rfl) (by kernel_rfl) (by kernel_rfl) (fun _ _ _ h=>h) (by rfl) (by assumption) ?_;simp only[pS];refine takeN (i:=23) (k:=45) rfl (by kernel_rfl) (by kernel_rfl) (by kernel_rfl) (by kernel_rfl) (fun _ _ _ h=>h) (by rfl) (by assumption) ?_;simp only[pS];refine takeN (i:=24) (k:=46) rfl (by kernel_rfl) (by kernel_rfl) (by kernel_rfl) (by kernel_rfl) (fun _ _ _ h=>h) (by rfl) (by assumption) ?_;simp only[pS];refine takeN (i:=25) (k:=47) rfl (by kernel_rfl) (by kernel_rfl) (by kernel_rfl) (by kernel_rfl) (fun _ _ _ h=>h) (by rfl) (by assumption) ?_;simp only[pS];refine takeN (i:=26) (k:=48) rfl (by kernel_rfl) (by kernel_rfl) (by kernel_rfl) (by kernel_rfl) (fun _ _ _ h=>h) (by rfl) (by assumption) ?_;simp only[pS];refine takeN (i:=27) (k:=49) rfl (by kernel_rfl) (by kernel_rfl) (by kernel_rfl) (by kernel_rfl) (fun _ _ _ h=>h) (by rfl) (by assumption) ?_;simp only[pS];refine takeN (i:=28) (k:=50) rfl (by kernel_rfl) (by kernel_rfl) (by kernel_rfl) (by kernel_rfl) (fun _ _ _ h=>h) (by rfl) (by assumption) ?_;simp only[pS];refine takeN (i:=29) (k:=51) rfl (by kernel_rfl) (by kernel_rfl) (by kernel_rfl) (by kernel_rfl) (fun _ _ _ h=>h) (by rfl) (by assumption) ?_;simp only[pS];refine takeN (i:=30) (k:=52) rfl (by kernel_rfl) (by kernel_rfl) (by kernel_rfl) (by kernel_rfl) (fun _ _ _ h=>h) (by rfl) (by assumption) ?_;simp only[pS];refine tkW 31 53 rfl rfl ?_ ?_ ?_;rotate_left
              · intro _ _;go_simp<;>(with_reducible rfl)
              simp only[pS];refine tkW 32 54 rfl rfl ?_ ?_ ?_;rotate_left
              · intro _ _;go_simp<;>(with_reducible rfl)
              simp only[pS];refine tkW 33 8 rfl rfl ?_ ?_ ?_;rotate_left
              · intro _ _;go_simp<;>(with_reducible rfl)
              simp only[pS];refine wpAnyH_done (by kernel_rfl) ?_ _;go_wp2_with fail;exact⟨⟨j+1,by have:=HJ.out;omega,by go_num,HB.out.trans (HB2.out.mono HB.out.size),by show sideT f (ps[j]?) _=R;rw[HQ.out];exact HNX.out⟩,by have:=HJ.out;simp[intOf];omega⟩
      have b1:(kd==1)=false:=int_ne k1
      by_cases k2:kd=2
      · subst k2
        obtain⟨P,hP⟩:∃P,f ⟨2,tx,op,wd,qq⟩=P:=⟨_,rfl⟩
        have HLQ:=yH (show Calls Tryz.prog 79 #[.agg #[.int .i64 2,.string s,.string s2,.slice up ul uc,.bool qq],.int .i64 (d:Int)] wr fun e w'=>e= .returned (.bool P)∧Below wr.heap.size wr w' from by
          rw[←hP,HF.out,←HSS.out.1,←HSS.out.2,←HUL.out]
          exact HP.out ⟨2,tx,op,wd,qq⟩ (.slice up wd.length uc) wr (by have:=HU.out;rwa [←HUL.out]at this) HQS.out HTR.out)
        have HSP:=yH (show(P&&sideT f (some ⟨2,tx,op,wd,qq⟩) (ps.drop (j+1)))=R from by rw[←hP];exact side_far HSD.out rfl);clear hP HSD
        cases P
        · have HRf:=yH (show false=R from HSP.out)
          go_wp2_with (go_at_call 79;refine HLQ.out.mono ?_;rintro e w2 ⟨rfl,hb⟩;have HB2:=yH hb;clear hb)
          go_ret;exact⟨ret_bool HRf.out,HB.out.trans (HB2.out.mono HB.out.size)⟩
        · have HNX:=yH (show sideT f (some ⟨2,tx,op,wd,qq⟩) (ps.drop (j+1))=R from HSP.out)
          go_wp2_with (go_at_call 79;refine HLQ.out.mono ?_;rintro e w2 ⟨rfl,hb⟩;have HB2:=yH hb;clear hb)
          exact⟨⟨j+1,by have:=HJ.out;omega,by go_num,HB.out.trans (HB2.out.mono HB.out.size),by show sideT f (ps[j]?) _=R;rw[HQ.out];exact HNX.out⟩,by have:=HJ.out;simp[intOf];omega⟩
      have b2:(kd==2)=false:=int_ne k2
      by_cases k3:kd=3
      · subst k3
        obtain⟨P,hP⟩:∃P,f ⟨3,tx,op,wd,qq⟩=P:=⟨_,rfl⟩
        have HLQ:=yH (show Calls Tryz.prog 80 #[.agg #[.int .i64 3,.string s,.string s2,.slice up ul uc,.bool qq]] wr fun e w'=>e= .returned (.bool P)∧Below wr.heap.size wr w' from by
          rw[←hP,HF.out,←HSS.out.1,←HSS.out.2,←HUL.out]
          exact tarith_any ⟨3,tx,op,wd,qq⟩ up uc wr HQS.out.1)
        have HSP:=yH (show(P&&sideT f (some ⟨3,tx,op,wd,qq⟩) (ps.drop (j+1)))=R from by rw[←hP];exact side_far HSD.out rfl);clear hP HSD
        cases P
        · have HRf:=yH (show false=R from HSP.out)
          go_wp2_with (go_at_call 80;refine HLQ.out.mono ?_;rintro e w2 ⟨rfl,hb⟩;have HB2:=yH hb;clear hb)
          go_ret;exact⟨ret_bool HRf.out,HB.out.trans (HB2.out.mono HB.out.size)⟩
        · have HNX:=yH (show sideT f (some ⟨3,tx,op,wd,qq⟩) (ps.drop (j+1))=R from HSP.out)
          go_wp2_with (go_at_call 80;refine HLQ.out.mono ?_;rintro e w2 ⟨rfl,hb⟩;have HB2:=yH hb;clear hb)
          exact⟨⟨j+1,by have:=HJ.out;omega,by go_num,HB.out.trans (HB2.out.mono HB.out.size),by show sideT f (ps[j]?) _=R;rw[HQ.out];exact HNX.out⟩,by have:=HJ.out;simp[intOf];omega⟩
      have b3:(kd==3)=false:=int_ne k3
      have HRf:=yH (show false=R from by
        have:=side_far HSD.out b1;rw[HF.out]at this;unfold partT at this;rw[if_neg k1,if_neg k2,if_neg k3]at this
        exact this)
      clear k1 k2 k3;go_wp2_with fail;go_ret;exact⟨ret_bool HRf.out,HB.out⟩
    · obtain rfl:j=N:=by omega
      have hj0:¬(j:Int)<(j:Int):=(by omega);rw[List.drop_of_length_le (by rw[HN.out];exact Nat.le_refl _)]at hsd;have HE:=yH (show true=R from by rw[←hsd];cases prevO ps j<;>rfl);have HB:=yH hb;clear hsd hb hlt hj;go_wp2_with fail;go_ret;exact⟨ret_bool HE.out,HB.out⟩
theorem rparts_any:∀(k d:Nat),k+d=20→∀wi,wi=decide (0<d)→RPartsDo (k+1) d wi
  |0,d,h,wi,hwi=>rparts_next h (fun hd=>by omega) wi hwi
  |k+1,d,h,wi,hwi=>rparts_next h (fun hd=>rparts_any k (d+1) (by omega) true (by simp)) wi hwi
set_option maxRecDepth 100000 in
theorem rword_any (ps:List Pt) (v:Value) (w:World) (hv:PsAt w v ps) (hs:Small ps) (hT:Tabs w):
    Calls Tryz.prog 16 #[wordV v] w fun e w'=>e= .returned (.bool (wordT ps))∧Below w.heap.size w w':=by
  obtain⟨p,c,rfl, -, -⟩:=hv.is;have HR:=yH (fun W (hb:Below w.heap.size w W)=>rparts_any 20 0 rfl false rfl ps _ W (hv.stays hb) hs (hT.below hb));have HB:=yH (fun o=>below_one w o);have HW:=yH (show wordT ps=(!ps.isEmpty&&rowT 21 ps)from rfl);have hpos:=empty_pos ps;obtain⟨R,hR⟩:∃R,wordT ps=R:=⟨_,rfl⟩;rw[hR]at HW ⊢;obtain⟨B,hB⟩:∃B,rowT 21 ps=B:=⟨_,rfl⟩;rw[hB]at HW HR;obtain⟨E,hEE⟩:∃E,ps.isEmpty=E:=⟨_,rfl⟩;rw[hEE]at hpos HW;obtain⟨L,hL⟩:∃L,ps.length=L:=⟨_,rfl⟩;rw[hL]at hpos HR ⊢;unfold wordV;have HR2:=yH (show ∀o,Calls Tryz.prog 36 #[.slice p L c,.bool false,.int .i64 0] (w.alloc o) fun e w'=>e= .returned (.bool B)∧Below (w.alloc o).heap.size (w.alloc o) w' from fun o=>HR.out _ (HB.out o));clear hR hB hEE hL hv hs HR hT
  cases E with
  |true=>
    have hn:¬(0:Int)<(L:Int):=of_decide_eq_false hpos;clear hpos;go_enter Tryz.func16,Tryz.ntmps16;go_wp2_with fail;go_ret;exact⟨ret_bool HW.out.symm,HB.out _⟩
  |false=>
    have hn:(0:Int)<(L:Int):=of_decide_eq_true hpos;clear hpos;go_enter Tryz.func16,Tryz.ntmps16
    go_wp2_with (go_at_call 36;refine(HR2.out _).mono ?_;rintro e w1 ⟨rfl,hb⟩;have HB1:=yH ((HB.out _).trans (hb.mono (HB.out _).size));clear hb)
    go_ret;exact⟨ret_bool HW.out.symm,HB1.out⟩
end Go.Proofs.YtcpmjkefbjbhpaaGreatDoor
