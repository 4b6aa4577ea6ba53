/-
  Proved: contracts of functions, plain facts. Conditions: as each says.
-/
import Derived.Test.YtakceggnadagmaaGreatDoorTreeROneA
import Derived.Test.YtakceggnadagmaaGreatDoorTreeROneB
import Derived.Test.YtakceggnadagmaaGreatDoorPq26
import Derived.Test.YtakceggnadagmaaGreatDoorPq27
import Derived.Test.YtakceggnadagmaaGreatDoorPq16
import Derived.Test.YtakceggnadagmaaGreatDoorPq23
import Derived.Test.YtakceggnadagmaaGreatDoorRows
import Derived.Below
import Derived.Carry
import Derived.ProofKit
import Derived.OpenShut
import Derived.Test.YtakceggnadagmaaGreatDoorCards
import Derived.Test.YtakceggnadagmaaGreatDoorTie
import Derived.Test.YtakceggnadagmaaGreatDoorPq15
import Derived.LaidMore
import Derived.Lay
import Derived.Stop.Joined
import Derived.Stop.LaidErr
import Derived.Deep.Fields
import Derived.Deep.Slices
namespace Go.Proofs.YtakceggnadagmaaGreatDoor
open Go Go.RowKit GlyphMath LexMath TreeMath
structure NFew (n:Nd):Prop where
  small:NSmall n
  kids:n.kids.length≤1048576
  words:n.words.length≤1048576
  assigns:n.assigns.length≤1048576
  redirs:n.redirs.length≤1048576
theorem rone_any (n:Nd) (kp wp pp ap rp:Option Addr) (kc wc pc ac rc:Nat) (w:World) (hw:WsAt w (.slice wp n.words.length wc) n.words) (hp:PatsAt w (.slice pp n.pats.length pc) n.pats) (ha:AsAt w (.slice ap n.assigns.length ac) n.assigns) (hr:AsAt w (.slice rp n.redirs.length rc) n.redirs) (hs:NFew n) (hT:Tabs w):
    Calls Tryz.prog 15 #[NV n kp wp pp ap rp kc wc pc ac rc] w fun e w'=>e= .returned (.bool (oneN n))∧Below w.heap.size w w':=by
  have hc:OneC w (T n.op) (T n.name) kp wp pp ap rp n.kids.length n.words.length n.pats.length n.assigns.length n.redirs.length kc wc pc ac rc (rredirsT n) (rcmdT n) (nameT n.name) (reservedT n.name) (n.words.all bareW) (rpatsT n):=
    { rd:=fun W hb=>rredirs_any n kp wp pp ap rp kc wc pc ac rc W (AsAt.below hr hb) hs.small (hT.below hb)
      cm:=fun W hb=>rcmd_any n kp wp pp ap rp kc wc pc ac rc W (WsAt.below hw hb) (AsAt.below ha hb) hs.small ⟨hs.assigns,hs.redirs⟩ (hT.below hb)
      pt:=fun W hb=>rpats_any n kp wp pp ap rp kc wc pc ac rc W (PatsAt.below hp hb) hs.small (hT.below hb)
      nm:=fun W hb=>rname_any (T n.name) W (by have:=hs.small.name;show n.name.length≤_;omega) (hT.below hb)
      rs:=fun W=>rreserved_any n.name W
      op:=fun W hb=>ropens_any n.words _ W (WsAt.below hw hb) hs.small.words (hT.below hb)
      w0:=fun h1=>by
        obtain⟨w0,hw0⟩:∃x,n.words= [x]:=by
          match hx:n.words,(show n.words.length=1 from h1)with
          | [x],_=>exact⟨x,rfl⟩
        obtain⟨bb,oo,rfl⟩:=SlAt.ptr hw (k:=0) (x:=w0) (by rw[hw0];rfl);obtain⟨cs,⟨u,rfl,hu⟩,hcc⟩:=SlAt.cell hw rfl (k:=0) (x:=w0) (by rw[hw0];rfl);refine⟨bb,oo,u,rfl,fun W hW=> ?_,fun W hW=> ?_⟩
        · have:=cell_below (hcc 0 _ rfl) hW
          rwa [show oo+0*1+0=oo by omega]at this
        · have:=ropen_any w0 u W (hu.stays hW) (hs.small.words w0 (by rw[hw0];simp)) (hT.below hW)
          rw[hw0]
          simpa [wordV]using this }
  have hA:decide ((0:Int)<(n.assigns.length:Int))= !n.assigns.isEmpty:=pos_len n.assigns;have hP:decide ((0:Int)<(n.pats.length:Int))= !n.pats.isEmpty:=pos_len n.pats;have hW:decide ((0:Int)<(n.words.length:Int))= !n.words.isEmpty:=pos_len n.words;have hN:(T n.name).toList.isEmpty=n.name.isEmpty:=(by rw[Lib.toList_data]);have hol:(T n.op).toList=n.op:=(by rw[Lib.toList_data]);have k1:n.kids.length≤4611686018427387904:=(by have:=hs.kids;omega);have k2:n.words.length≤4611686018427387904:=(by have:=hs.words;omega);show Calls _ _ #[.agg #[.string (T n.op),.string (T n.name),.slice kp n.kids.length kc,.slice wp n.words.length wc,.slice pp n.pats.length pc,.slice ap n.assigns.length ac,.slice rp n.redirs.length rc]] _ _
  cases ho:opsL.contains n.op with
  |false=>
    rw[one_other n ho];exact rone_other (by rw[hol];exact ho) hc hA hP hW hN
  |true=>
    have hcase:n.op= [99,109,100]∨n.op= [115,101,113]∨n.op= [97,110,100]∨n.op= [111,114]∨n.op= [110,111,116]∨n.op= [112,105,112,101]∨n.op= [105,102]∨n.op= [119,104,105,108,101]∨n.op= [117,110,116,105,108]∨n.op= [102,111,114]∨n.op= [99,97,115,101]∨n.op= [102,117,110]∨n.op= [103,114,111,117,112]∨n.op= [115,117,98]:=by simpa [opsL]using ho
    rcases hcase with h|h|h|h|h|h|h|h|h|h|h|h|h|h
    · rw[one_cmd n h k1 k2]
      exact rone_cmd (by rw[hol];exact h) hc hA hP hW hN
    · rw[one_seq n h k1 k2]
      exact rone_seq (by rw[hol];exact h) hc hA hP hW hN
    · rw[one_and n h k1 k2]
      exact rone_and (by rw[hol];exact h) hc hA hP hW hN
    · rw[one_or n h k1 k2]
      exact rone_or (by rw[hol];exact h) hc hA hP hW hN
    · rw[oneM_not n h k1 k2]
      exact rone_not (by rw[hol];exact h) hc hA hP hW hN
    · rw[one_pipe n h k1 k2]
      exact rone_pipe (by rw[hol];exact h) hc hA hP hW hN
    · rw[one_if n h k1 k2]
      exact rone_if (by rw[hol];exact h) hc hA hP hW hN
    · rw[one_while n h k1 k2]
      exact rone_while (by rw[hol];exact h) hc hA hP hW hN
    · rw[one_until n h k1 k2]
      exact rone_until (by rw[hol];exact h) hc hA hP hW hN
    · rw[one_for n h k1 k2]
      exact rone_for (by rw[hol];exact h) hc hA hP hW hN
    · rw[one_case n h k1 k2]
      exact rone_case (by rw[hol];exact h) hc hA hP hW hN
    · rw[one_fun n h k1 k2]
      exact rone_fun (by rw[hol];exact h) hc hA hP hW hN
    · rw[one_group n h k1 k2]
      exact rone_group (by rw[hol];exact h) hc hA hP hW hN
    · rw[one_sub n h k1 k2]
      exact rone_sub (by rw[hol];exact h) hc hA hP hW hN
theorem walkV_is (m:Option Nat) (L:Nat):(rwalkV m==(L:Int))=(m==some L):=by
  cases m with
  |none=>exact int_ne (by show(-1:Int)≠(L:Int);omega)
  |some m=>
    show((m:Int)==(L:Int))=_;rw[nat_beq];simp
theorem prog_cells (w:World) (a b:Value) (t:TypeId):∀W,Below (w.alloc (.cells #[a,b] t)).heap.size (w.alloc (.cells #[a,b] t)) W→W.cell? ⟨w.heap.size,0,none⟩=some a∧W.cell? ⟨w.heap.size,1,none⟩=some b:=by
  intro W hb;have h:=heap_alloc_new w (.cells #[a,b] t);exact⟨cell_below (cell_plain h 0) hb,cell_below (cell_plain h 1) hb⟩
set_option linter.unusedSimpArgs false in
set_option maxHeartbeats 2000000 in
set_option maxRecDepth 100000 in
theorem ris_any (ns:List Nd) (root:Int) (np:Option Addr) (nc:Nat) (w:World) (hN:NsAt w (.slice np ns.length nc) ns) (hs:∀n∈ns,NFew n) (hT:Tabs w):
    Calls Tryz.prog 9 #[.agg #[.slice np ns.length nc,.int .i64 root]] w fun e w'=>e= .returned (.bool (isT ns root))∧Below w.heap.size w w':=by
  have HBX:=yH (fun o=>below_one w o);obtain⟨R,hR⟩:∃R,isT ns root=R:=⟨_,rfl⟩;have hR2:=hR;rw[is_ref]at hR2;rw[hR]
  by_cases h1:1≤ns.length
  case neg=>
    have HF:=yH (show false=R from by rw[←hR2,decide_eq_false h1];rfl);have hi:(ns.length:Int)<1:=(by omega)
    generalize ns.length=L at hi ⊢
    clear hR hR2 hN hs hT h1;go_enter Tryz.func9,Tryz.ntmps9;go_wp2_with fail;go_ret;exact⟨ret_bool HF.out,HBX.out _⟩
  rw[decide_eq_true h1,Bool.true_and]at hR2
  by_cases h2:ns.length≤200
  case neg=>
    have HF:=yH (show false=R from by rw[←hR2,decide_eq_false h2];rfl);have hi:¬(ns.length:Int)<1:=(by omega);have hi2:(200:Int)<(ns.length:Int):=(by omega)
    generalize ns.length=L at hi hi2 ⊢
    clear hR hR2 hN hs hT h1 h2;go_enter Tryz.func9,Tryz.ntmps9;go_wp2_with fail;go_ret;exact⟨ret_bool HF.out,HBX.out _⟩
  rw[decide_eq_true h2,Bool.true_and]at hR2
  by_cases h3:root=0
  case neg=>
    have HF:=yH (show false=R from by rw[←hR2,int_ne h3];rfl);have hi:¬(ns.length:Int)<1:=(by omega);have hi2:¬(200:Int)<(ns.length:Int):=(by omega);have hi3:(root !=0)=true:=(by simpa using h3)
    generalize ns.length=L at hi hi2 ⊢
    clear hR hR2 hN hs hT h1 h2 h3;go_enter Tryz.func9,Tryz.ntmps9;go_wp2_with fail;go_ret;exact⟨ret_bool HF.out,HBX.out _⟩
  subst h3;have HND:=yH (fun m x (hx:ns[m]? =some x)=>NsAt.node hN hx);have HPT:=yH (fun m x (hx:ns[m]? =some x)=>(SlAt.ptr hN hx));have HS:=yH hs;have HT:=yH hT;have HWK:=yH (fun W (hb:Below w.heap.size w W)=>rwalk_any (root:=0) hN ns.length 0 W hb h1 (by omega));obtain⟨X,hX⟩:∃X,(rwalkT ns ns.length 0==some ns.length)=X:=⟨_,rfl⟩;have HR:=yH (show(ns.all oneN&&X)=R from by rw[←hX];simpa using hR2);have HX:=yH (show(rwalkV (rwalkT ns ns.length 0)==(ns.length:Int))=X from by rw[walkV_is];exact hX);obtain⟨V,hV⟩:∃V,rwalkV (rwalkT ns ns.length 0)=V:=⟨_,rfl⟩;rw[hV]at HX HWK;obtain⟨L,hL⟩:∃L,ns.length=L:=⟨_,rfl⟩;have HL:=yH hL;rw[hL]at HX HWK h1 h2 ⊢;have hL1:¬(L:Int)<1:=(by omega);have hL2:¬(200:Int)<(L:Int):=(by omega);have hL3:(L:Int)≤200:=(by omega);have HPC:=yH (prog_cells w (.slice np L nc) (.int .i64 0) 24);clear hR hR2 hX hV hL hN hs hT h1 h2;go_enter Tryz.func9,Tryz.ntmps9;go_wp2_with fail;obtain⟨w1,hw1⟩:∃w1,w.alloc (.cells #[.slice np L nc,.int .i64 0] 24)=w1:=⟨_,rfl⟩;have HB1:=yH (show Below w.heap.size w w1 by rw[←hw1];exact HBX.out _);have HPC:=yH (show ∀W,Below w1.heap.size w1 W→_ from by rw[←hw1];exact HPC.out);rw[hw1];clear hw1
  go_loopw [3] (fun i wr=> ∃j,j≤L∧i= .int .i64 (j:Int)∧Below w1.heap.size w1 wr∧((ns.drop j).all oneN&&X)=R) (fun i _=>L-(intOf i).toNat)
  case atStart=>exact⟨0,by omega,rfl,Below.refl _ _,by rw[List.drop_zero];exact HR.out⟩
  case round=>
    obtain⟨j,hj,rfl,hb,hsd⟩:=hrel;obtain⟨p0,p1⟩:=HPC.out wr hb;have HB:=yH hb;have HW0:=yH (HB1.out.trans (hb.mono HB1.out.size))
    by_cases hlt:j<L
    · obtain⟨n,hn⟩:∃n,ns[j]? =some n:=⟨_,List.getElem?_eq_getElem (by rw[HL.out];exact hlt)⟩
      obtain⟨bb,oo,hpo,kb,wp,pp,ap,rp,kc,wc,pc,ac,rc, -,gw,gp,ga,gr,e0,e1,e2,e3,e4,e5,e6⟩:=HND.out j n hn;obtain⟨m0,m1,m2,m3,m4,m5,m6⟩:=stay7 ⟨e0,e1,e2,e3,e4,e5,e6⟩ HW0.out;subst hpo;have hone:=rone_any n kb wp pp ap rp kc wc pc ac rc wr (WsAt.below gw HW0.out) (PatsAt.below gp HW0.out) (AsAt.below ga HW0.out) (AsAt.below gr HW0.out) (HS.out n (List.mem_of_getElem? hn)) (HT.out.below HW0.out);unfold NV nodeV at hone;obtain⟨O,hO⟩:∃O,oneN n=O:=⟨_,rfl⟩;rw[drop_get hn,List.all_cons,hO]at hsd;rw[hO]at hone;obtain⟨KL,hKL⟩:∃L,n.kids.length=L:=⟨_,rfl⟩;obtain⟨WL,hWL⟩:∃L,n.words.length=L:=⟨_,rfl⟩;obtain⟨PL,hPL⟩:∃L,n.pats.length=L:=⟨_,rfl⟩;obtain⟨AL,hAL⟩:∃L,n.assigns.length=L:=⟨_,rfl⟩;obtain⟨RL,hRL⟩:∃L,n.redirs.length=L:=⟨_,rfl⟩;obtain⟨xo,hxo⟩:∃L,T n.op=L:=⟨_,rfl⟩;obtain⟨xn,hxn⟩:∃L,T n.name=L:=⟨_,rfl⟩;rw[hKL]at m2 hone;rw[hWL]at m3 hone;rw[hPL]at m4 hone;rw[hAL]at m5 hone;rw[hRL]at m6 hone;rw[hxo]at m0;rw[hxn]at m1;have HONE:=yH (show Calls Tryz.prog 15 #[.agg #[.string xo,.string xn,.slice kb KL kc,.slice wp WL wc,.slice pp PL pc,.slice ap AL ac,.slice rp RL rc]] wr fun e w'=>e= .returned (.bool O)∧Below wr.heap.size wr w' from by rw[←hxo,←hxn];exact hone);have HSD:=yH hsd;have hj0:(j:Int)<(L:Int):=(by omega);have HJ:=yH hlt;clear hone hO hKL hWL hPL hAL hRL hxo hxn hsd hb hlt hj hn gw gp ga gr e0 e1 e2 e3 e4 e5 e6
      cases O
      · have HF:=yH (show false=R from HSD.out)
        go_wp2_with (go_at_call 15;refine HONE.out.mono ?_;rintro e w2 ⟨rfl,hb2⟩;have HB2:=yH hb2;clear hb2)
        go_ret;exact⟨ret_bool HF.out,HW0.out.trans (HB2.out.mono HW0.out.size)⟩
      · have HF:=yH (show((ns.drop (j+1)).all oneN&&X)=R from HSD.out)
        go_wp2_with (go_at_call 15;refine HONE.out.mono ?_;rintro e w2 ⟨rfl,hb2⟩;have HB2:=yH hb2;clear hb2)
        exact⟨⟨j+1,by have:=HJ.out;omega,by go_num,HB.out.trans (HB2.out.mono HB.out.size),HF.out⟩,by have:=HJ.out;simp[intOf];omega⟩
    · obtain rfl:j=L:=by omega
      have hj0:¬(j:Int)<(j:Int):=(by omega);rw[List.drop_of_length_le (by rw[HL.out];exact Nat.le_refl _)]at hsd;have HF:=yH (show(V==(j:Int))=R from by rw[HX.out];simpa using hsd);have HQ:=yH (And.intro p0 p1)
      have HWD:=yH (show Calls Tryz.prog 16 #[.agg #[.slice np j nc,.int .i64 0],.int .i64 0] wr.drew fun e w'=>e= .returned (.int .i64 V)∧Below wr.heap.size wr w' from by
        refine(HWK.out wr.drew (HW0.out.trans ((below_drew1 _ _).mono HW0.out.size))).mono ?_;rintro e w' ⟨rfl,hb⟩
        exact⟨rfl,(below_drew1 _ _).trans hb⟩)
      obtain⟨Q,hQ⟩:∃Q,(V==(j:Int))=Q:=⟨_,rfl⟩;rw[hQ]at HF;clear hsd hb hlt hj;go_wp2_with fail;refine wp_region_held_drew (S:=(fun W=>W.cell? ⟨w.heap.size,0,none⟩=some (.slice np j nc)∧W.cell? ⟨w.heap.size,1,none⟩=some (.int .i64 0))) (by kernel_rfl) ?_ (fun hHeld=> ?_)
      · exact HQ.out
      refine tkW 0 33 rfl rfl ?_ ?_ ?_;rotate_left
      · intro _ _;go_simp<;>(with_reducible rfl)
      simp only[pS];refine tkW 2 35 rfl rfl ?_ ?_ ?_;rotate_left
      · intro _ _;go_simp<;>(with_reducible rfl)
      simp only[pS];refine tkW 3 36 rfl rfl ?_ ?_ ?_;rotate_left
      · intro _ _;go_simp<;>(with_reducible rfl)
      simp only[pS];refine tkW 4 37 rfl rfl ?_ ?_ ?_;rotate_left
      · intro _ _;go_simp<;>(with_reducible rfl)
      simp only[pS];refine cW 1 rfl (fun K hK=> ?_);go_simp
      go_wp2_with ((go_at_call 16;refine HWD.out.mono ?_;rintro e w2 ⟨rfl,hb2⟩;have HB2:=yH hb2;have HQ2:=yH (And.intro (cell_below HQ.out.1 hb2) (cell_below HQ.out.2 hb2));clear hb2))
      refine hK.out _ _ ?_ (fun hHeld=> ?_)
      · exact HQ2.out
      clear hK K;refine tkW 5 38 rfl rfl ?_ ?_ ?_;rotate_left
      · intro _ _;go_simp<;>(with_reducible rfl)
      simp only[pS];refine tkW 6 2 rfl rfl ?_ ?_ ?_;rotate_left
      · intro _ _;go_simp<;>(with_reducible rfl)
      simp only[pS];refine wpAnyH_done (by kernel_rfl) ?_ _;go_wp2_with fail;go_ret;exact⟨ret_bool HF.out,HW0.out.trans (HB2.out.mono HW0.out.size)⟩
end Go.Proofs.YtakceggnadagmaaGreatDoor
namespace Go.Proofs.YtakceggnadagmaaGreatDoor
open Go Go.RowKit GlyphMath LexMath TreeMath ParseMath ShowMath
def orderL:List ByteArray:= [⟨#[97,32,38,38,32,98,32,124,124,32,99]⟩,⟨#[33,32,97,32,124,32,98,32,38,38,32,99]⟩,⟨#[97,59,32,98,10,99]⟩,⟨#[105,102,32,97,59,32,116,104,101,110,32,98,59,32,101,108,105,102,32,99,59,32,116,104,101,110,32,100,59,32,101,108,115,101,32,101,59,32,102,105]⟩,⟨#[119,104,105,108,101,32,97,59,32,100,111,32,98,59,32,100,111,110,101,32,62,32,102]⟩,⟨#[120,61,49,32,121,61,32,122,32,119,61,50,32,60,102]⟩,⟨#[102,40,41,32,123,32,97,59,32,125]⟩,⟨#[99,97,115,101,32,36,120,32,105,110,32,40,97,124,98,41,32,99,59,59,32,42,41,32,100,59,59,32,101,115,97,99]⟩,⟨#[102,111,114,32,105,32,105,110,32,97,32,98,10,100,111,32,99,59,32,100,111,110,101]⟩,⟨#[40,32,97,59,32,98,32,41,32,124,32,123,32,99,59,32,125]⟩,⟨#[117,110,116,105,108,32,97,10,100,111,10,98,10,100,111,110,101]⟩,⟨#[97,32,35,32,98,10,99]⟩,⟨#[101,99,104,111,32,105,102,32,116,104,101,110]⟩,⟨#[34,105,102,34,32,97]⟩,⟨#[97,10,10]⟩,⟨#[10,10,97,32,38,38,10,98]⟩]
def wantL:List ByteArray:= [⟨#[97,32,38,38,32,98,32,124,124,32,99]⟩,⟨#[33,32,97,32,124,32,98,32,38,38,32,99]⟩,⟨#[97,59,32,98,59,32,99]⟩,⟨#[105,102,32,97,59,32,116,104,101,110,32,98,59,32,101,108,115,101,32,105,102,32,99,59,32,116,104,101,110,32,100,59,32,101,108,115,101,32,101,59,32,102,105,59,32,102,105]⟩,⟨#[119,104,105,108,101,32,97,59,32,100,111,32,98,59,32,100,111,110,101,32,62,32,102]⟩,⟨#[120,61,49,32,121,61,34,34,32,122,32,119,61,50,32,60,32,102]⟩,⟨#[102,40,41,32,123,32,97,59,32,125]⟩,⟨#[99,97,115,101,32,36,123,120,125,32,105,110,32,40,97,32,124,32,98,41,32,99,59,59,32,40,42,41,32,100,59,59,32,101,115,97,99]⟩,⟨#[102,111,114,32,105,32,105,110,32,97,32,98,59,32,100,111,32,99,59,32,100,111,110,101]⟩,⟨#[40,32,97,59,32,98,32,41,32,124,32,123,32,99,59,32,125]⟩,⟨#[117,110,116,105,108,32,97,59,32,100,111,32,98,59,32,100,111,110,101]⟩,⟨#[97,59,32,99]⟩,⟨#[101,99,104,111,32,105,102,32,116,104,101,110]⟩,⟨#[34,105,102,34,32,97]⟩,⟨#[97]⟩,⟨#[97,32,38,38,32,98]⟩]
def orderT (k:Nat):ByteArray:=orderL.getD k ⟨#[]⟩
def wantT (k:Nat):ByteArray:=wantL.getD k ⟨#[]⟩
def orderV:List Value:=orderL.map .string
def wantV:List Value:=wantL.map .string
def orderObj:Obj:= .cells #[.string ⟨#[97,32,38,38,32,98,32,124,124,32,99]⟩,.string ⟨#[33,32,97,32,124,32,98,32,38,38,32,99]⟩,.string ⟨#[97,59,32,98,10,99]⟩,.string ⟨#[105,102,32,97,59,32,116,104,101,110,32,98,59,32,101,108,105,102,32,99,59,32,116,104,101,110,32,100,59,32,101,108,115,101,32,101,59,32,102,105]⟩,.string ⟨#[119,104,105,108,101,32,97,59,32,100,111,32,98,59,32,100,111,110,101,32,62,32,102]⟩,.string ⟨#[120,61,49,32,121,61,32,122,32,119,61,50,32,60,102]⟩,.string ⟨#[102,40,41,32,123,32,97,59,32,125]⟩,.string ⟨#[99,97,115,101,32,36,120,32,105,110,32,40,97,124,98,41,32,99,59,59,32,42,41,32,100,59,59,32,101,115,97,99]⟩,.string ⟨#[102,111,114,32,105,32,105,110,32,97,32,98,10,100,111,32,99,59,32,100,111,110,101]⟩,.string ⟨#[40,32,97,59,32,98,32,41,32,124,32,123,32,99,59,32,125]⟩,.string ⟨#[117,110,116,105,108,32,97,10,100,111,10,98,10,100,111,110,101]⟩,.string ⟨#[97,32,35,32,98,10,99]⟩,.string ⟨#[101,99,104,111,32,105,102,32,116,104,101,110]⟩,.string ⟨#[34,105,102,34,32,97]⟩,.string ⟨#[97,10,10]⟩,.string ⟨#[10,10,97,32,38,38,10,98]⟩] 9
def wantObj:Obj:= .cells #[.string ⟨#[97,32,38,38,32,98,32,124,124,32,99]⟩,.string ⟨#[33,32,97,32,124,32,98,32,38,38,32,99]⟩,.string ⟨#[97,59,32,98,59,32,99]⟩,.string ⟨#[105,102,32,97,59,32,116,104,101,110,32,98,59,32,101,108,115,101,32,105,102,32,99,59,32,116,104,101,110,32,100,59,32,101,108,115,101,32,101,59,32,102,105,59,32,102,105]⟩,.string ⟨#[119,104,105,108,101,32,97,59,32,100,111,32,98,59,32,100,111,110,101,32,62,32,102]⟩,.string ⟨#[120,61,49,32,121,61,34,34,32,122,32,119,61,50,32,60,32,102]⟩,.string ⟨#[102,40,41,32,123,32,97,59,32,125]⟩,.string ⟨#[99,97,115,101,32,36,123,120,125,32,105,110,32,40,97,32,124,32,98,41,32,99,59,59,32,40,42,41,32,100,59,59,32,101,115,97,99]⟩,.string ⟨#[102,111,114,32,105,32,105,110,32,97,32,98,59,32,100,111,32,99,59,32,100,111,110,101]⟩,.string ⟨#[40,32,97,59,32,98,32,41,32,124,32,123,32,99,59,32,125]⟩,.string ⟨#[117,110,116,105,108,32,97,59,32,100,111,32,98,59,32,100,111,110,101]⟩,.string ⟨#[97,59,32,99]⟩,.string ⟨#[101,99,104,111,32,105,102,32,116,104,101,110]⟩,.string ⟨#[34,105,102,34,32,97]⟩,.string ⟨#[97]⟩,.string ⟨#[97,32,38,38,32,98]⟩] 9
def orderLow (k:Nat):Bool:=decide ((orderT k).data.toList.map (·.toNat)=orderN.getD k [])&&(lowB (orderT k)&&decide ((wantT k).data.toList=wantN.getD k []))
theorem order_low:∀k,k<16→orderLow k=true:=by decide+kernel
def orderFull (k:Nat):Bool:=match parseN (orderN.getD k []).length (orderN.getD k [])with
  | .ok ns=>fullNs ns
  | .error _=>false
theorem order_full:∀k,k<16→orderFull k=true:=by decide+kernel
theorem smP_small:∀(k:Nat) (ps:List Pt),smP k ps=true→Small ps
  |0,ps,h=>by
    obtain rfl:ps= []:=(by simpa [smP]using h);exact .mk _ (fun _ h=>by cases h) fun _ h=>(by cases h)
  |k+1,ps,h=>by
    have h:=List.all_eq_true.1 h;refine .mk _ (fun q hq=> ?_) fun q hq=> ?_
    · have:=h q hq
      simp only[Bool.and_eq_true,decide_eq_true_eq]at this;exact this.1
    · have:=h q hq
      simp only[Bool.and_eq_true]at this;exact smP_small k _ this.2
theorem few_of {n:Nd} (h:smN n=true) (hf:fewN n=true):NFew n:=by
  unfold smN at h;unfold fewN at hf;simp only[Bool.and_eq_true,List.all_eq_true,decide_eq_true_eq]at h hf;obtain⟨h1,h2,h3,h4,h5⟩:=h;exact⟨⟨fun y hy=>smP_small _ _ (h1 y hy),fun l hl y hy=>smP_small _ _ (h2 l hl y hy),fun y hy=>smP_small _ _ (h3 y hy).2,fun y hy=>smP_small _ _ (h4 y hy),h5,fun y hy=>(h3 y hy).1⟩,hf.1,hf.2.1,hf.2.2.1,hf.2.2.2⟩
theorem order_says {k:Nat} (hk:k<16):∃ns,parseB (orderT k)= .ok ns∧isT ns 0=true∧okS ns ns.length 0=true∧T (textS ns)=wantT k∧(textS ns).length≤BigL∧(∀n∈ns,NFew n)∧fullNs ns=true:=by
  have h1:=order_chk k hk;have h2:=order_low k hk;have h3:=order_full k hk;unfold orderChk at h1;unfold orderLow at h2;unfold orderFull at h3;simp only[Bool.and_eq_true,decide_eq_true_eq]at h1 h2;obtain⟨h1,hz,hw⟩:=h1;rw[parseB_low h2.1 (lowB_is h2.2.1) (by omega)]
  cases hm:parseN (orderN.getD k []).length (orderN.getD k [])with
  |error x=>rw[hm]at h1;cases h1
  |ok ns=>
    rw[hm]at h1 h3;simp only[orderTell,Bool.and_eq_true,decide_eq_true_eq]at h1;obtain⟨a,b,c,d,e⟩:=h1;refine⟨ns,rfl,a,b,?_,by rw[c];unfold BigL;omega,fun n hn=>few_of (List.all_eq_true.1 d n hn) (List.all_eq_true.1 e n hn),h3⟩;rw[c,←h2.2.2]
theorem order_cell (w:World) (k:Nat) (hk:k<16):((w.alloc orderObj).alloc wantObj).cell? ⟨w.heap.size,k,none⟩=some (.string (orderT k)):=by
  rw[cell_plain (pair_one w orderObj wantObj)]
  have e:∀k,k<16→orderV.toArray[k]? =some (.string (orderT k)):=by
    intro k hk;rw[List.getElem?_toArray,orderV,List.getElem?_map,orderT,List.getD_eq_getElem?_getD,List.getElem?_eq_getElem (show k<orderL.length from hk)];rfl
  exact e k hk
theorem want_cell (w:World) (k:Nat) (hk:k<16):((w.alloc orderObj).alloc wantObj).cell? ⟨w.heap.size+1,k,none⟩=some (.string (wantT k)):=by
  rw[cell_plain (pair_two w orderObj wantObj)]
  have e:∀k,k<16→wantV.toArray[k]? =some (.string (wantT k)):=by
    intro k hk;rw[List.getElem?_toArray,wantV,List.getElem?_map,wantT,List.getD_eq_getElem?_getD,List.getElem?_eq_getElem (show k<wantL.length from hk)];rfl
  exact e k hk
set_option maxHeartbeats 4000000 in
set_option maxRecDepth 100000 in
theorem order_out (n:Int) (w:World) (h:n<0∨16≤n):Calls Tryz.prog 4 #[.int .i64 n] w fun e w'=>e= .returned (.bool true)∧Below w.heap.size w w':=by
  have hb:=pair_below w orderObj wantObj
  by_cases h0:n<0
  · clear h
    go_enter Tryz.func4,Tryz.ntmps4;go_wp2_with fail;go_ret;exact⟨rfl,hb⟩
  have h20:16≤n:=(by omega);clear h;go_enter Tryz.func4,Tryz.ntmps4;go_wp2_with fail;go_ret;exact⟨rfl,hb⟩
set_option maxHeartbeats 4000000 in
set_option maxRecDepth 100000 in
theorem order_in (k:Nat) (hk:k<16) (w:World) (hS:Signs w) (hT:Tabs w):Calls Tryz.prog 4 #[.int .i64 (k:Int)] w fun e w'=>e= .returned (.bool true)∧Below w.heap.size w w':=by
  have HBB:=yH (pair_below w orderObj wantObj);have ca:=order_cell w k hk;have cb:=want_cell w k hk;obtain⟨W,hW⟩:∃W,(w.alloc orderObj).alloc wantObj=W:=⟨_,rfl⟩;rw[hW]at HBB ca cb;have HS:=yH (signs_below hS HBB.out);have HTB:=yH (hT.below HBB.out);obtain⟨ns,hm,hi,hok,htx,hL,hf,hfull⟩:=order_says hk
  have HT:=yH (show Calls Tryz.prog 11 #[.string (orderT k)] W (fun e w'=> ∃p c,e= .returned (.tuple #[.agg #[.slice p ns.length c,.int .i64 0],.int .i64 ((orderT k).size:Int),.int .i64 0])∧NsAt w' (.slice p ns.length c) ns∧Below W.heap.size W w')from by
    refine(pparse_any (orderT k) W HS.out).mono fun e w' h=> ?_;unfold PaEnd at h;rw[hm]at h;obtain⟨v,rfl,⟨p,c,rfl⟩,hn,hb⟩:=h
    exact⟨p,c,rfl,hn hfull,hb⟩)
  have HIS:=yH (fun (p:Option Addr) (c:Nat) (V:World) (hN:NsAt V (.slice p ns.length c) ns) (hT:Tabs V)=>by
    have:=ris_any ns 0 p c V hN hf hT
    rwa [hi]at this)
  have HTX:=yH (fun (v:Value) (V:World) (hN:NsAt V v ns)=>by
    have:=rtext_any ns v 0 V hN hok hL
    rwa [htx]at this)
  obtain⟨sz,hsz⟩:∃z:Int,((orderT k).size:Int)=z:=⟨_,rfl⟩;rw[hsz]at HT;obtain⟨tx,htxx⟩:∃tx,orderT k=tx:=⟨_,rfl⟩;obtain⟨wt,hwt⟩:∃wt,wantT k=wt:=⟨_,rfl⟩;rw[htxx]at HT ca;rw[hwt]at HTX cb;obtain⟨N,hN⟩:∃N,ns.length=N:=⟨_,rfl⟩;rw[hN]at HT HIS;have h0:(0:Int)≤(k:Int):=(by omega);have h1:(k:Int)<16:=(by omega);have h2:¬(k:Int)<0:=(by omega);have h3:¬(16:Int)≤(k:Int):=(by omega);clear hm hi hok htx hL hf hfull hsz htxx hwt hk hS hT hN;unfold orderObj wantObj at hW;go_enter Tryz.func4,Tryz.ntmps4
  go_wp2_with (first
    |(rw[hW];clear hW)
    |(go_at_call 11;refine HT.out.mono ?_;rintro e w1 ⟨p,c,rfl,hn,hb⟩;have HN1:=yH hn;have HB:=yH hb;clear hn hb))
  have hb2:=below_new w1 (.cells #[.slice p N c,.int .i64 0] 24);have hh2:=heap_alloc_new w1 (.cells #[.slice p N c,.int .i64 0] 24);obtain⟨w2,hw2⟩:∃w2,w1.alloc (.cells #[.slice p N c,.int .i64 0] 24)=w2:=⟨_,rfl⟩;rw[hw2]at hb2 hh2 ⊢;clear hw2;have p0:w2.cell? ⟨w1.heap.size,0,none⟩=some (.slice p N c):=cell_plain hh2 0;have p1:w2.cell? ⟨w1.heap.size,1,none⟩=some (.int .i64 0):=cell_plain hh2 1;have q0:w2.cell? ⟨w.heap.size+1,k,none⟩=some (.string wt):=cell_below (cell_below cb HB.out) hb2;have HW2:=yH (HB.out.trans (hb2.mono HB.out.size));have HI:=yH (HIS.out p c (w2.drewN 1) (HN1.out.below ⟨hb2.os,hb2.tape,hb2.output,hb2.size,hb2.block⟩) (HTB.out.below ⟨HW2.out.os,HW2.out.tape,HW2.out.output,HW2.out.size,HW2.out.block⟩));have HN2:=yH (HN1.out.below hb2);have hn0:k<16:=(by omega);clear hb2 hh2 ca cb;go_wp2_with fail;have HDw2:=yH (show w2.drew.cell? ⟨w1.heap.size,0,none⟩=some (.slice p N c)∧w2.drew.cell? ⟨w1.heap.size,1,none⟩=some (.int .i64 0)∧w2.drew.cell? ⟨w.heap.size+1,k,none⟩=some (.string wt)from ⟨p0,p1,q0⟩);refine wp_region_held_drew (S:=fun W=>W.cell? ⟨w1.heap.size,0,none⟩=some (.slice p N c)∧W.cell? ⟨w1.heap.size,1,none⟩=some (.int .i64 0)∧W.cell? ⟨w.heap.size+1,k,none⟩=some (.string wt)) (by kernel_rfl) ?_ (fun hHeld=> ?_)
  · exact HDw2.out
  refine tkW 0 27 rfl rfl ?_ ?_ ?_;rotate_left
  · intro _ _;go_simp<;>(with_reducible rfl)
  simp only[pS];refine tkW 1 28 rfl rfl ?_ ?_ ?_;rotate_left
  · intro _ _;go_simp<;>(with_reducible rfl)
  simp only[pS];refine tkW 2 29 rfl rfl ?_ ?_ ?_;rotate_left
  · intro _ _;go_simp<;>(with_reducible rfl)
  simp only[pS];refine tkW 3 30 rfl rfl ?_ ?_ ?_;rotate_left
  · intro _ _;go_simp<;>(with_reducible rfl)
  simp only[pS];refine cW 4 rfl (fun K hK=> ?_);go_simp
  go_wp2_with (go_at_call 9;refine(HI.out).mono ?_;rintro e w3 ⟨rfl,hbw3⟩;have hbw3:Below w2.heap.size w2 w3:=⟨hbw3.os,hbw3.tape,hbw3.output,hbw3.size,hbw3.block⟩;have Sw3:=yH (show w3.cell? ⟨w1.heap.size,0,none⟩=some (.slice p N c)∧w3.cell? ⟨w1.heap.size,1,none⟩=some (.int .i64 0)∧w3.cell? ⟨w.heap.size+1,k,none⟩=some (.string wt)from ⟨cell_below p0 hbw3,cell_below p1 hbw3,cell_below q0 hbw3⟩);have HBw3:=yH hbw3;clear hbw3)
  refine hK.out _ _ ?_ (fun hHeld=> ?_)
  · exact Sw3.out
  clear hK K;refine tkW 5 32 rfl rfl ?_ ?_ ?_;rotate_left
  · intro _ _;go_simp<;>(with_reducible rfl)
  simp only[pS];refine tkW 6 33 rfl rfl ?_ ?_ ?_;rotate_left
  · intro _ _;go_simp<;>(with_reducible rfl)
  simp only[pS];refine tkW 7 34 rfl rfl ?_ ?_ ?_;rotate_left
  · intro _ _;go_simp<;>(with_reducible rfl)
  simp only[pS];refine tkW 9 36 rfl rfl ?_ ?_ ?_;rotate_left
  · intro _ _;go_simp<;>(with_reducible rfl)
  simp only[pS];refine tkW 10 37 rfl rfl ?_ ?_ ?_;rotate_left
  · intro _ _;go_simp<;>(with_reducible rfl)
  simp only[pS];refine tkW 11 38 rfl rfl ?_ ?_ ?_;rotate_left
  · intro _ _;go_simp<;>(with_reducible rfl)
  simp only[pS];refine tkW 12 39 rfl rfl ?_ ?_ ?_;rotate_left
  · intro _ _;go_simp<;>(with_reducible rfl)
  simp only[pS];refine cW 8 rfl (fun K hK=> ?_);go_simp
  go_wp2_with (go_at_call 10;refine(HTX.out _ w3 (HN2.out.below HBw3.out)).mono ?_;rintro e w4 ⟨rfl,hbw4⟩;have hbw4:Below w3.heap.size w3 w4:=⟨hbw4.os,hbw4.tape,hbw4.output,hbw4.size,hbw4.block⟩;have Sw4:=yH (show w4.cell? ⟨w1.heap.size,0,none⟩=some (.slice p N c)∧w4.cell? ⟨w1.heap.size,1,none⟩=some (.int .i64 0)∧w4.cell? ⟨w.heap.size+1,k,none⟩=some (.string wt)from ⟨cell_below Sw3.out.1 hbw4,cell_below Sw3.out.2.1 hbw4,cell_below Sw3.out.2.2 hbw4⟩);have HBw4:=yH (HBw3.out.trans (hbw4.mono HBw3.out.size));clear hbw4)
  refine hK.out _ _ ?_ (fun hHeld=> ?_)
  · exact Sw4.out
  clear hK K;refine tkW 13 40 rfl rfl ?_ ?_ ?_;rotate_left
  · intro _ _;go_simp<;>(with_reducible rfl)
  simp only[pS];refine tkW 14 41 rfl rfl ?_ ?_ ?_;rotate_left
  · intro _ _;go_simp<;>(with_reducible rfl)
  simp only[pS];refine tkW 15 42 rfl rfl ?_ ?_ ?_;rotate_left
  · intro _ _;go_simp<;>(with_reducible rfl)
  simp only[pS];refine cW 16 rfl (fun K hK=> ?_);go_simp
  go_wp2_with (go_at_call 14;refine(known_any w4 (signs_below HS.out (HW2.out.trans (HBw4.out.mono HW2.out.size)))).mono ?_;rintro e w5 ⟨rfl,hbw5⟩;have hbw5:Below w4.heap.size w4 w5:=⟨hbw5.os,hbw5.tape,hbw5.output,hbw5.size,hbw5.block⟩;have Sw5:=yH (show w5.cell? ⟨w1.heap.size,0,none⟩=some (.slice p N c)∧w5.cell? ⟨w1.heap.size,1,none⟩=some (.int .i64 0)∧w5.cell? ⟨w.heap.size+1,k,none⟩=some (.string wt)from ⟨cell_below Sw4.out.1 hbw5,cell_below Sw4.out.2.1 hbw5,cell_below Sw4.out.2.2 hbw5⟩);have HBw5:=yH (HBw4.out.trans (hbw5.mono HBw4.out.size));clear hbw5)
  refine hK.out _ _ ?_ (fun hHeld=> ?_)
  · exact Sw5.out
  clear hK K;refine tkW 17 44 rfl rfl ?_ ?_ ?_;rotate_left
  · intro _ _;go_simp<;>(with_reducible rfl)
  simp only[pS];refine tkW 18 2 rfl rfl ?_ ?_ ?_;rotate_left
  · intro _ _;go_simp<;>(with_reducible rfl)
  simp only[pS];refine wpAnyH_done (by kernel_rfl) ?_ _;go_wp2_with fail;go_ret;have h5:=HW2.out.trans (HBw5.out.mono HW2.out.size);exact⟨rfl,HBB.out.trans (h5.mono HBB.out.size)⟩
theorem order_law (n:Int) (w:World) (hS:Signs w) (hT:Tabs w):Calls Tryz.prog 4 #[.int .i64 n] w fun e w'=>e= .returned (.bool true)∧Below w.heap.size w w':=by
  by_cases h:n<0∨16≤n
  · exact order_out n w h
  · obtain⟨k,rfl⟩:∃k:Nat,n=(k:Int):=⟨n.toNat,by omega⟩
    exact order_in k (by omega) w hS hT
end Go.Proofs.YtakceggnadagmaaGreatDoor
namespace Go.Proofs.YtakceggnadagmaaGreatDoor
open Go Go.ChangeShapes Go.WideShapes Go.ChangeAt Go.WideMaps Go.WideElems Go.RowKit
theorem own:ownKnob Tryz.prog.godebug=none:=by kernel_rfl
theorem laidOut:laidOutB Tryz.prog=true:=by kernel_rfl
section
variable {H : Type} {enc : TypeId × Value → H} {P : Program}
theorem trodAll_stays (hl:laidOutB P=true) {W W':World} (hb:Below W.heap.size W W'):∀ {ts:List TypeId} {vs:List Value} {ds:List (DataW H)} {ps:List MemPlace},
    (∀t∈ts,P.readableRec t=true∧t<P.types.size)→(∀x∈ps,x.block<W.heap.size)→DataW.TrodAll enc P W 0 (fun _=>true) true ts vs ds ps→DataW.TrodAll enc P W' 0 (fun b=>decide (b<W.heap.size)) true ts vs ds ps
  | [],vs,ds,ps,_,_,h=>by
    obtain⟨rfl,rfl,rfl⟩:=trodAll_nil h;exact trodAll_mk0
  |t::ts,vs,ds,ps,ht,hp,h=>by
    obtain⟨v0,vs0,d0,ds0,p0,q0,rfl,rfl,rfl,h0,r0⟩:=trodAll_cons h
    exact trodAll_cons_mk (hb.trod hl (ht t (by simp)).1 (ht t (by simp)).2 h0 (fun x hx=>hp x (by simp[hx])))
      (trodAll_stays hl hb (fun t' h'=>ht t' (by simp[h'])) (fun x hx=>hp x (by simp[hx])) r0)
theorem law_post {f:Func} {s:ChangeSpec} {W W':World} {args:Array Value} {ds gs:List (DataW H)} {before:List MemPlace} {tb:TypeId} (hl:laidOutB P=true) (hts:∀t∈f.params.toList,P.readableRec t=true∧t<P.types.size)
    (hrt:f.resultTypes= #[tb]) (h4:P.underlying tb=some .bool) (hvars:s.vars= []) (hW:DataW.Whole enc P f.params.toList s.vars false W args.toList ds gs before)
    (hfn:s.fn H (ds++gs)= { results:= [.lit (.bool true)],args:=ds }) (hb:Below W.heap.size W W'):s.post enc P f false true false false W args (.bool true) W':=by
  have hW':=hW;obtain⟨p,q,hA,hV,hbe,hfz,hnd⟩:=hW;rw[hvars]at hV;obtain⟨rfl,rfl⟩:=trodVars_none hV;have hlt:∀x∈before,x.block<W.heap.size:=fun x hx=>hW'.lt x hx;have hbp:before=p:=(by rw[hbe];simp);subst hbp;refine⟨ds,[],before,[],before,[],hW',?_,?_,?_,?_,fun h=>by cases h⟩
  · rw[hfn,hrt];exact trodAll_mk1 (shut_bool h4 true)
  · rw[hfn];exact trodAll_stays hl hb hts hlt hA
  · rw[hfn,hvars];exact hV
  · exact World.keptBut_mono (fun x hx=>⟨hx,.inr (.inl hx)⟩) (hb.frame (· ∈before))
end
end Go.Proofs.YtakceggnadagmaaGreatDoor
namespace Go.Proofs.YtakceggnadagmaaGreatDoor
open Go Go.ChangeShapes Go.WideShapes Go.ChangeAt Go.WideMaps Go.WideElems Go.RowKit GlyphMath LexMath
def bothL : List (String × DataW Unit) := [("unicode/utf8.acceptRanges", Rows.laid_unicode_utf8_acceptRanges), ("lazarus/lex.signs", Rows.laid_lazarus_lex_signs), ("unicode/utf8.first", Rows.laid_unicode_utf8_first)]
def signBytes:List (List UInt8):= [[38,38],[124,124],[59,59],[62,62],[59],[124],[40],[41],[62],[60],[10]]
theorem sign_data:(Rows.laid_lazarus_lex_signs:DataW Unit)= .agg (signBytes.map fun b=> .lit (.string b)):=by kernel_rfl
theorem sign_named : Tryz.prog.globalNamed "lazarus/lex.signs" = some 0 := by kernel_rfl
theorem sign_type:(Tryz.prog.globals[0]?).map (·.type)=some 149:=by kernel_rfl
theorem sign_cells:Tryz.prog.cellsOf 9=1∧Tryz.prog.cellsOf 149=11:=⟨by kernel_rfl,by kernel_rfl⟩
theorem lit_inj {a b:List UInt8} (h:(DataW.lit (.string a):DataW Unit)= .lit (.string b)):a=b:=by
  cases h
  rfl
set_option maxRecDepth 100000 in
theorem signs_of_reads {w : World} (h : Lib.VarReads Tryz.prog w "lazarus/lex.signs" Rows.laid_lazarus_lex_signs) : Signs w := by
  obtain⟨g,t,cs,fuel,p,hg,hty,hvar,hd⟩:=h;obtain rfl:=Option.some.inj (sign_named.symm.trans hg);obtain rfl:=Option.some.inj (sign_type.symm.trans hty);rw[sign_data]at hd
  have key:∀i,i<11→∃b,signBytes[i]? =some b∧cs.toList[i]? =some (.string ⟨b.toArray⟩):=by
    intro i hi;obtain⟨fuel',d,q,hdi,he⟩:=Lib.array_elem Tryz.underlying149 hd i hi;obtain⟨s,hcz,hx, -⟩:=DataW.trod_string Tryz.underlying9 he;rw[List.getElem?_map]at hdi;obtain⟨b,hb,hbd⟩:=Option.map_eq_some_iff.1 hdi;have hd2:d= .lit (.string s.data.toList):=congrArg Prod.fst hx;rw[hd2]at hbd;have e:b=s.data.toList:=lit_inj hbd;refine⟨b,hb,?_⟩;have h2:=congrArg (·[0]?) hcz;rw[sign_cells.1]at h2;have h3:cs.toList[i]? =some (.string s):=(by simpa [List.getElem?_take,List.getElem?_drop]using h2);rw[h3,e]
  intro j v hj;have hjl:j<11:=(List.getElem?_eq_some_iff.1 hj).1;obtain⟨b,hb,hc⟩:=key j hjl;have hv:=World.var?_cell hg hvar j;rw[Nat.zero_add,hv,←Array.getElem?_toList,hc];have e:signCells=signBytes.map fun b=> .string ⟨b.toArray⟩:=rfl;rw[e,List.getElem?_map,hb]at hj;exact hj
theorem both_of_laidH {W:World} (h:laidMetH Tryz.prog bothL W):Signs W∧Tabs W:=by
  rw[MakeChecks.laidMetH_plain _ _ _ (by kernel_rfl)]at h;refine⟨signs_of_reads (Lib.laidMet.reads h (by simp[bothL])),?_⟩
  have h3 := Lib.laidMet.reads h (n := "unicode/utf8.first") (d := Rows.laid_unicode_utf8_first) (by simp [bothL])
  have h4 := Lib.laidMet.reads h (n := "unicode/utf8.acceptRanges") (d := Rows.laid_unicode_utf8_acceptRanges) (by simp [bothL])
  rw[first_is]at h3;rw[accept_is]at h4;exact utf8Tabs_of_reads lays260 extra h3 h4
open Go.ChangeMaps (open_string shut_string)
set_option maxRecDepth 100000 in
theorem parseOrder_lifted (os:Os) (started:os.Started) (H:Type) (enc:TypeId×Value→H):
    ReturnsInHanded {} Tryz.checked os 4 .any (fun w args=>(Rows.parseOrderSpec.pre enc Tryz.prog Tryz.f4 [] false w args∧laidMetH Tryz.prog bothL w)∧sizedMet enc Tryz.prog Tryz.f4 (OpenSpec.ofChange Rows.parseOrderSpec) false w args)
      (Rows.parseOrderSpec.post enc Tryz.prog Tryz.f4 false true false false):=by
  refine returnsInHanded_of_change_and (C:=Tryz.checked) (X:=fun w _=>laidMetH Tryz.prog bothL w) (fun _ _ _ hh h=>h.of_heap hh) own started (by kernel_rfl) Tryz.func4
    (ChangeSpec.witness_shaped (enc:=enc) (C:=Tryz.checked) (os:=os) (X:=fun w _=>laidMetH Tryz.prog bothL w) false (World.laidAll Tryz.prog os bothL) #[.int .i64 0] 8 (World.laidAll_os _ _ _)
      (World.shaped_of_ZipB (by kernel_rfl) (by kernel_rfl)) (by kernel_rfl) (by kernel_rfl) (by kernel_rfl)
      (by rw[MakeChecks.laidMetH_plain _ _ _ (by kernel_rfl)];exact laidMet_laidAll _ (by kernel_rfl) (by kernel_rfl))) ?_
  intro W base args ds gs before hval0 hW _ _ hL _;have hval:∀(j:Nat) t v,Tryz.f4.params[j]? =some t→args[j]? =some v→Value.okWide Tryz.prog W .any base t v:=hval0;have hW':=hW;obtain⟨hS,hT⟩:=both_of_laidH hL;obtain⟨p,q,hA0,hV,hbe,hfz,hnd⟩:=hW;have hA:DataW.TrodAll enc Tryz.prog W 0 (fun _=>true) true Tryz.f4.params.toList args.toList ds p:=hA0;rw[Tryz.params4]at hA hval;obtain⟨v0,d0,rfl,rfl,h0⟩:=trodAll_one hA;obtain⟨rfl,rfl⟩:=trodVars_none hV
  have fin:∀W':World,Below W.heap.size W W'→Rows.parseOrderSpec.post enc Tryz.prog Tryz.f4 false true false false W #[v0] (.bool true) W':=fun W' hb=>
    law_post laidOut (by decide+kernel) (by kernel_rfl) Tryz.underlying4 rfl hW' rfl hb
  obtain⟨n0,rfl, -, -, -⟩:=open_int Tryz.underlying3 (hval 0 3 v0 rfl rfl) h0;exact(order_law n0 W hS hT).mono fun e W' ⟨he,hb⟩=>⟨_,he,fin W' hb⟩
theorem parseOrder_said:Rows.ParseOrderSaid:=
  OpenClaim.holds_of_wide 4 Tryz.f4 rfl rfl rfl rfl rfl rfl rfl ⟨rfl,rfl,rfl,rfl,rfl⟩ rfl rfl rfl rfl rfl (by kernel_rfl) Tryz.func4 (by kernel_rfl)
    (of_decide_eq_true (by kernel_rfl)) (by unfold Func.isWrapper;first|(rw[if_pos (by decide+kernel)];kernel_rfl)|(rw[if_neg (by decide+kernel)];exact⟨rfl,rfl⟩))
    (fun os started H enc _=>parseOrder_lifted os started H enc)
theorem parseOrder_plain (f : FuncId) (fn : Func) (hf : Tryz.pinned.checked.prog.funcNamed "lazarus/lazaruslaw10.ParseOrder" = some f) (hfn : Tryz.pinned.checked.prog.funcs[f]? = some fn) :
    false=Tryz.pinned.checked.prog.looks []∧∀(j:Nat) t,fn.params[j]? =some t→Tryz.pinned.checked.prog.wantsStandIn t=false:=by
  obtain rfl : f = 4 := Option.some.inj ((show Tryz.prog.funcNamed "lazarus/lazaruslaw10.ParseOrder" = some 4 by kernel_rfl).symm.trans hf) |>.symm
  obtain rfl:fn=Tryz.f4:=(Option.some.inj (Tryz.func4.symm.trans hfn)).symm;refine⟨by kernel_rfl,fun j t ht=> ?_⟩;rw[Tryz.params4]at ht;obtain rfl:t=3:=(by simpa using Array.mem_of_getElem? ht);exact(show Tryz.prog.wantsStandIn 3=false by kernel_rfl)
theorem parseOrder_card:Rows.ParseOrderCardSaid:=
  Claim7.holds_tied_plain_at .later [] _ _ _ _ parseOrder_said (fun _ h=>by cases h) (by kernel_rfl) (fun _ h=>by cases h) parseOrder_row_tie rfl ⟨rfl,rfl⟩ (by kernel_rfl) rfl parseOrder_plain (by kernel_rfl)
end Go.Proofs.YtakceggnadagmaaGreatDoor
