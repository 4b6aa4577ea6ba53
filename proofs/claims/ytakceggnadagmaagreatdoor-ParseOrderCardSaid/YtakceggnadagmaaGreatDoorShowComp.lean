/-
  Proved: contracts of the statements' own compound of what is shown, branch by branch. Conditions: the kids are nodes, as many as the branch has; what is written is short enough for an int.
-/
import Derived.Test.YtakceggnadagmaaGreatDoorPq20
namespace Go.Proofs.YtakceggnadagmaaGreatDoor
open Go Go.RowKit GlyphMath LexMath TreeMath ShowMath
theorem kid_at {w:World} {kp:Option Addr} {kc n:Nat} {kl:List Int} (hk:KidsAt w (.slice kp n kc) kl) {j:Nat} {k:Int} (hq:kl[j]? =some k):∃b o,kp=some ⟨b,o,none⟩∧w.cell? ⟨b,o+j,none⟩=some (.int .i64 k):=by
  obtain⟨b,o,rfl⟩:=SlAt.ptr hk hq;obtain⟨cs,rfl,hcc⟩:=SlAt.cell hk rfl hq;have:=hcc 0 _ rfl;rw[Nat.mul_one,Nat.add_zero]at this;exact⟨b,o,rfl,this⟩
theorem kids_get {ns:List Nd} {f:Nat} {kl:List Int} {j:Nat} {k:Int} (hq:kl[j]? =some k):(kidsS ns f kl)[j]? =some (nodeS ns f k.toNat):=by unfold kidsS;rw[List.getElem?_map,hq];rfl
theorem at0_get {ns:List Nd} {f:Nat} {kl:List Int} {j:Nat} {k:Int} (hq:kl[j]? =some k):at0 (kidsS ns f kl) j=nodeS ns f k.toNat:=by unfold at0;rw[List.getD_eq_getElem?_getD,kids_get hq];rfl
theorem kids_two {w:World} {kp:Option Addr} {kc:Nat} {k0 k1:Int} (hk:KidsAt w (.slice kp 2 kc) [k0,k1]):∃b o,kp=some ⟨b,o,none⟩∧∀W,Below w.heap.size w W→W.cell? ⟨b,o,none⟩=some (.int .i64 k0)∧W.cell? ⟨b,o+1,none⟩=some (.int .i64 k1):=by
  obtain⟨b,o,rfl,h0⟩:=kid_at hk (j:=0) rfl;obtain⟨b',o',e,h1⟩:=kid_at hk (j:=1) rfl
  cases e
  exact⟨b,o,rfl,fun W hb=>⟨cell_below h0 hb,cell_below h1 hb⟩⟩
theorem kids_three {w:World} {kp:Option Addr} {kc:Nat} {k0 k1 k2:Int} (hk:KidsAt w (.slice kp 3 kc) [k0,k1,k2]):∃b o,kp=some ⟨b,o,none⟩∧∀W,Below w.heap.size w W→W.cell? ⟨b,o,none⟩=some (.int .i64 k0)∧W.cell? ⟨b,o+1,none⟩=some (.int .i64 k1)∧W.cell? ⟨b,o+2,none⟩=some (.int .i64 k2):=by
  obtain⟨b,o,rfl,h0⟩:=kid_at hk (j:=0) rfl;obtain⟨b',o',e,h1⟩:=kid_at hk (j:=1) rfl
  cases e
  obtain⟨b',o',e,h2⟩:=kid_at hk (j:=2) rfl
  cases e
  exact⟨b,o,rfl,fun W hb=>⟨cell_below h0 hb,cell_below h1 hb,cell_below h2 hb⟩⟩
set_option maxHeartbeats 8000000 in
set_option maxRecDepth 100000 in
theorem rcomp_group {ns:List Nd} {np:Option Addr} {nc:Nat} {rt:Int} {f:Nat} (hN:NodeDo ns np nc rt f) (o x:ByteArray) (kp wp pp ap rp:Option Addr) (PL AL RL kc wc pc ac rc:Nat) (WL:Nat) (w:World) (kl:List Int) (hk:KidsAt w (.slice kp kl.length kc) kl) (hok:okK ns f kl=true) (hne:kl≠ []) (hns:NsAt w (.slice np ns.length nc) ns) (e_if:(o.toList== [105,102])=false) (e_while:(o.toList== [119,104,105,108,101])=false) (e_until:(o.toList== [117,110,116,105,108])=false) (e_for:(o.toList== [102,111,114])=false) (e_case:(o.toList== [99,97,115,101])=false) (e_group:(o.toList== [103,114,111,117,112])=true) (hL:([123,32]++at0 (kidsS ns f kl) 0++ [59,32,125]).length≤BigL):
    Calls Tryz.prog 37 #[.agg #[.slice np ns.length nc,.int .i64 rt],.agg #[.string o,.string x,.slice kp kl.length kc,.slice wp WL wc,.slice pp PL pc,.slice ap AL ac,.slice rp RL rc]] w fun e w'=>e= .returned (.string (T ([123,32]++at0 (kidsS ns f kl) 0++ [59,32,125])))∧Below w.heap.size w w':=by
  have HKC:=yH (fun (j:Nat) (k:Int) (hk:kl[j]? =some k) (hl:(nodeS ns f k.toNat).length≤BigL) (W:World) (hb:Below w.heap.size w W) (n:Nat)=>kid_call hN hok hns hk hl hb n);obtain⟨NN,hNN⟩:∃NN,ns.length=NN:=⟨_,rfl⟩;rw[hNN]at HKC ⊢;obtain⟨k0,hk0⟩:∃k,kl[0]? =some k:=⟨_,List.getElem?_eq_getElem (List.length_pos_iff.2 hne)⟩;rw[at0_get hk0]at hL ⊢;obtain⟨R,hRR⟩:∃R,[123,32]++nodeS ns f k0.toNat++ [59,32,125]=R:=⟨_,rfl⟩;have hl:=congrArg List.length hRR;simp only[List.length_append]at hl;rw[hRR]at hL ⊢;have hz0:(nodeS ns f k0.toNat).length≤BigL:=(by omega);have HC0:=yH (HKC.out 0 k0 hk0 hz0);have z0:(T (nodeS ns f k0.toNat)).size≤1152921504606846976:=(by rw[T_size];exact hz0);have HQ:=yH (show⟨#[123,32]⟩++T (nodeS ns f k0.toNat)++⟨#[59,32,125]⟩=T R from by rw[←hRR];simp only[T_append]);obtain⟨r0,hr0⟩:∃r,T (nodeS ns f k0.toNat)=r:=⟨_,rfl⟩;rw[hr0]at HC0 z0 HQ;obtain⟨kb,ko,rfl,hkc⟩:=kid_at hk hk0;rw[Nat.add_zero]at hkc;have HK0:=yH (fun W (hb:Below w.heap.size w W)=>cell_below hkc hb);have hlen:=hk.few;have hp0:(0:Int)<(kl.length:Int):=(by have:=List.length_pos_iff.2 hne;omega);have hN0:(kl.length:Int)≤2^63-1:=(by unfold maxLen at hlen;omega);obtain⟨N,hNl⟩:∃N,kl.length=N:=⟨_,rfl⟩;rw[hNl]at hp0 hN0 ⊢;have hn0:0<N:=(by omega);have s1:¬9223372036854775807<2+r0.size:=(by omega);have s2:¬9223372036854775807<2+r0.size+3:=(by omega);have HA:=yH (two_boxes w np NN nc rt o x);have HBX:=yH (fun (p q:Obj)=>(below_two w p q));clear hRR hl hL hok hns hne hk hk0 hr0 hkc hlen hNl hNN hz0 z0 hN;go_enter Tryz.func37,Tryz.ntmps37;go_wp2_with fail;obtain⟨w1,hw1⟩:∃w1,(w.alloc (.cells #[.slice np NN nc,.int .i64 rt] 24)).alloc (.cells #[.string o,.string x,.slice (some ⟨kb,ko,none⟩) N kc,.slice wp WL wc,.slice pp PL pc,.slice ap AL ac,.slice rp RL rc] 44)=w1:=⟨_,rfl⟩;have HB1:=yH (show Below w.heap.size w w1 by rw[←hw1];exact HBX.out _ _);have HNC:=yH (fun W=>HA.out (.slice (some ⟨kb,ko,none⟩) N kc) (.slice wp WL wc) (.slice pp PL pc) (.slice ap AL ac) (.slice rp RL rc) 24 44 W w1 hw1.symm);rw[hw1];clear hw1;obtain⟨⟨p0,p1⟩,n0,n1,n2,n3, -⟩:=HNC.out w1 (Below.refl _ _);have q0:=HK0.out w1 HB1.out;go_wp2_with fail;have HDw1:=yH (show w1.drew.cell? ⟨w.heap.size,0,none⟩=some (.slice np NN nc)∧w1.drew.cell? ⟨w.heap.size,1,none⟩=some (.int .i64 rt)∧w1.drew.cell? ⟨w.heap.size+1,2,none⟩=some (.slice (some ⟨kb,ko,none⟩) N kc)∧w1.drew.cell? ⟨kb,ko,none⟩=some (.int .i64 k0)from ⟨p0,p1,n2,q0⟩);refine wp_region_held_drew (S:=fun W=>W.cell? ⟨w.heap.size,0,none⟩=some (.slice np NN nc)∧W.cell? ⟨w.heap.size,1,none⟩=some (.int .i64 rt)∧W.cell? ⟨w.heap.size+1,2,none⟩=some (.slice (some ⟨kb,ko,none⟩) N kc)∧W.cell? ⟨kb,ko,none⟩=some (.int .i64 k0)) (by kernel_rfl) ?_ (fun hHeld=> ?_)
  · exact HDw1.out
  refine tkW 0 98 rfl rfl ?_ ?_ ?_;rotate_left
  · intro _ _;go_simp<;>(with_reducible rfl)
  simp only[pS];refine tkW 1 99 rfl rfl ?_ ?_ ?_;rotate_left
  · intro _ _;go_simp<;>(with_reducible rfl)
  simp only[pS];refine tkW 2 100 rfl rfl ?_ ?_ ?_;rotate_left
  · intro _ _;go_simp<;>(with_reducible rfl)
  simp only[pS];refine tkW 3 101 rfl rfl ?_ ?_ ?_;rotate_left
  · intro _ _;go_simp<;>(with_reducible rfl)
  simp only[pS];refine tkW 4 102 rfl rfl ?_ ?_ ?_;rotate_left
  · intro _ _;go_simp<;>(with_reducible rfl)
  simp only[pS];refine cW 5 rfl (fun K hK=> ?_);go_simp
  go_wp2_with (go_at_call 17;refine(HC0.out w1 HB1.out 1).mono ?_;rintro e w2 ⟨rfl,hbw2⟩;have hbw2:Below w1.heap.size w1 w2:=⟨hbw2.os,hbw2.tape,hbw2.output,hbw2.size,hbw2.block⟩;have Sw2:=yH (show w2.cell? ⟨w.heap.size,0,none⟩=some (.slice np NN nc)∧w2.cell? ⟨w.heap.size,1,none⟩=some (.int .i64 rt)∧w2.cell? ⟨w.heap.size+1,2,none⟩=some (.slice (some ⟨kb,ko,none⟩) N kc)∧w2.cell? ⟨kb,ko,none⟩=some (.int .i64 k0)from ⟨cell_below p0 hbw2,cell_below p1 hbw2,cell_below n2 hbw2,cell_below q0 hbw2⟩);have HBw2:=yH hbw2;clear hbw2)
  refine hK.out _ _ ?_ (fun hHeld=> ?_)
  · exact Sw2.out
  clear hK K;refine tkW 6 104 rfl rfl ?_ ?_ ?_;rotate_left
  · intro _ _;go_simp<;>(with_reducible rfl)
  simp only[pS];refine tkW 7 105 rfl rfl ?_ ?_ ?_;rotate_left
  · intro _ _;go_simp<;>(with_reducible rfl)
  simp only[pS];refine tkW 8 4 rfl rfl ?_ ?_ ?_;rotate_left
  · intro _ _;go_simp<;>(with_reducible rfl)
  simp only[pS];refine wpAnyH_done (by kernel_rfl) ?_ _;go_wp2_with fail;go_ret;exact⟨by rw[←HQ.out];rfl,HB1.out.trans (HBw2.out.mono HB1.out.size)⟩
set_option maxHeartbeats 8000000 in
set_option maxRecDepth 100000 in
theorem rcomp_sub {ns:List Nd} {np:Option Addr} {nc:Nat} {rt:Int} {f:Nat} (hN:NodeDo ns np nc rt f) (o x:ByteArray) (kp wp pp ap rp:Option Addr) (PL AL RL kc wc pc ac rc:Nat) (WL:Nat) (w:World) (kl:List Int) (hk:KidsAt w (.slice kp kl.length kc) kl) (hok:okK ns f kl=true) (hne:kl≠ []) (hns:NsAt w (.slice np ns.length nc) ns) (e_if:(o.toList== [105,102])=false) (e_while:(o.toList== [119,104,105,108,101])=false) (e_until:(o.toList== [117,110,116,105,108])=false) (e_for:(o.toList== [102,111,114])=false) (e_case:(o.toList== [99,97,115,101])=false) (e_group:(o.toList== [103,114,111,117,112])=false) (hL:([40,32]++at0 (kidsS ns f kl) 0++ [32,41]).length≤BigL):
    Calls Tryz.prog 37 #[.agg #[.slice np ns.length nc,.int .i64 rt],.agg #[.string o,.string x,.slice kp kl.length kc,.slice wp WL wc,.slice pp PL pc,.slice ap AL ac,.slice rp RL rc]] w fun e w'=>e= .returned (.string (T ([40,32]++at0 (kidsS ns f kl) 0++ [32,41])))∧Below w.heap.size w w':=by
  have HKC:=yH (fun (j:Nat) (k:Int) (hk:kl[j]? =some k) (hl:(nodeS ns f k.toNat).length≤BigL) (W:World) (hb:Below w.heap.size w W) (n:Nat)=>kid_call hN hok hns hk hl hb n);obtain⟨NN,hNN⟩:∃NN,ns.length=NN:=⟨_,rfl⟩;rw[hNN]at HKC ⊢;obtain⟨k0,hk0⟩:∃k,kl[0]? =some k:=⟨_,List.getElem?_eq_getElem (List.length_pos_iff.2 hne)⟩;rw[at0_get hk0]at hL ⊢;obtain⟨R,hRR⟩:∃R,[40,32]++nodeS ns f k0.toNat++ [32,41]=R:=⟨_,rfl⟩;have hl:=congrArg List.length hRR;simp only[List.length_append]at hl;rw[hRR]at hL ⊢;have hz0:(nodeS ns f k0.toNat).length≤BigL:=(by omega);have HC0:=yH (HKC.out 0 k0 hk0 hz0);have z0:(T (nodeS ns f k0.toNat)).size≤1152921504606846976:=(by rw[T_size];exact hz0);have HQ:=yH (show⟨#[40,32]⟩++T (nodeS ns f k0.toNat)++⟨#[32,41]⟩=T R from by rw[←hRR];simp only[T_append]);obtain⟨r0,hr0⟩:∃r,T (nodeS ns f k0.toNat)=r:=⟨_,rfl⟩;rw[hr0]at HC0 z0 HQ;obtain⟨kb,ko,rfl,hkc⟩:=kid_at hk hk0;rw[Nat.add_zero]at hkc;have HK0:=yH (fun W (hb:Below w.heap.size w W)=>cell_below hkc hb);have hlen:=hk.few;have hp0:(0:Int)<(kl.length:Int):=(by have:=List.length_pos_iff.2 hne;omega);have hN0:(kl.length:Int)≤2^63-1:=(by unfold maxLen at hlen;omega);obtain⟨N,hNl⟩:∃N,kl.length=N:=⟨_,rfl⟩;rw[hNl]at hp0 hN0 ⊢;have hn0:0<N:=(by omega);have s1:¬9223372036854775807<2+r0.size:=(by omega);have s2:¬9223372036854775807<2+r0.size+2:=(by omega);have HA:=yH (two_boxes w np NN nc rt o x);have HBX:=yH (fun (p q:Obj)=>(below_two w p q));clear hRR hl hL hok hns hne hk hk0 hr0 hkc hlen hNl hNN hz0 z0 hN;go_enter Tryz.func37,Tryz.ntmps37;go_wp2_with fail;obtain⟨w1,hw1⟩:∃w1,(w.alloc (.cells #[.slice np NN nc,.int .i64 rt] 24)).alloc (.cells #[.string o,.string x,.slice (some ⟨kb,ko,none⟩) N kc,.slice wp WL wc,.slice pp PL pc,.slice ap AL ac,.slice rp RL rc] 44)=w1:=⟨_,rfl⟩;have HB1:=yH (show Below w.heap.size w w1 by rw[←hw1];exact HBX.out _ _);have HNC:=yH (fun W=>HA.out (.slice (some ⟨kb,ko,none⟩) N kc) (.slice wp WL wc) (.slice pp PL pc) (.slice ap AL ac) (.slice rp RL rc) 24 44 W w1 hw1.symm);rw[hw1];clear hw1;obtain⟨⟨p0,p1⟩,n0,n1,n2,n3, -⟩:=HNC.out w1 (Below.refl _ _);have q0:=HK0.out w1 HB1.out;go_wp2_with fail;have HDw1:=yH (show w1.drew.cell? ⟨w.heap.size,0,none⟩=some (.slice np NN nc)∧w1.drew.cell? ⟨w.heap.size,1,none⟩=some (.int .i64 rt)∧w1.drew.cell? ⟨w.heap.size+1,2,none⟩=some (.slice (some ⟨kb,ko,none⟩) N kc)∧w1.drew.cell? ⟨kb,ko,none⟩=some (.int .i64 k0)from ⟨p0,p1,n2,q0⟩);refine wp_region_held_drew (S:=fun W=>W.cell? ⟨w.heap.size,0,none⟩=some (.slice np NN nc)∧W.cell? ⟨w.heap.size,1,none⟩=some (.int .i64 rt)∧W.cell? ⟨w.heap.size+1,2,none⟩=some (.slice (some ⟨kb,ko,none⟩) N kc)∧W.cell? ⟨kb,ko,none⟩=some (.int .i64 k0)) (by kernel_rfl) ?_ (fun hHeld=> ?_)
  · exact HDw1.out
  refine tkW 0 106 rfl rfl ?_ ?_ ?_;rotate_left
  · intro _ _;go_simp<;>(with_reducible rfl)
  simp only[pS];refine tkW 1 107 rfl rfl ?_ ?_ ?_;rotate_left
  · intro _ _;go_simp<;>(with_reducible rfl)
  simp only[pS];refine tkW 2 108 rfl rfl ?_ ?_ ?_;rotate_left
  · intro _ _;go_simp<;>(with_reducible rfl)
  simp only[pS];refine tkW 3 109 rfl rfl ?_ ?_ ?_;rotate_left
  · intro _ _;go_simp<;>(with_reducible rfl)
  simp only[pS];refine tkW 4 110 rfl rfl ?_ ?_ ?_;rotate_left
  · intro _ _;go_simp<;>(with_reducible rfl)
  simp only[pS];refine cW 5 rfl (fun K hK=> ?_);go_simp
  go_wp2_with (go_at_call 17;refine(HC0.out w1 HB1.out 1).mono ?_;rintro e w2 ⟨rfl,hbw2⟩;have hbw2:Below w1.heap.size w1 w2:=⟨hbw2.os,hbw2.tape,hbw2.output,hbw2.size,hbw2.block⟩;have Sw2:=yH (show w2.cell? ⟨w.heap.size,0,none⟩=some (.slice np NN nc)∧w2.cell? ⟨w.heap.size,1,none⟩=some (.int .i64 rt)∧w2.cell? ⟨w.heap.size+1,2,none⟩=some (.slice (some ⟨kb,ko,none⟩) N kc)∧w2.cell? ⟨kb,ko,none⟩=some (.int .i64 k0)from ⟨cell_below p0 hbw2,cell_below p1 hbw2,cell_below n2 hbw2,cell_below q0 hbw2⟩);have HBw2:=yH hbw2;clear hbw2)
  refine hK.out _ _ ?_ (fun hHeld=> ?_)
  · exact Sw2.out
  clear hK K;refine tkW 6 112 rfl rfl ?_ ?_ ?_;rotate_left
  · intro _ _;go_simp<;>(with_reducible rfl)
  simp only[pS];refine tkW 7 113 rfl rfl ?_ ?_ ?_;rotate_left
  · intro _ _;go_simp<;>(with_reducible rfl)
  simp only[pS];refine tkW 8 4 rfl rfl ?_ ?_ ?_;rotate_left
  · intro _ _;go_simp<;>(with_reducible rfl)
  simp only[pS];refine wpAnyH_done (by kernel_rfl) ?_ _;go_wp2_with fail;go_ret;exact⟨by rw[←HQ.out];rfl,HB1.out.trans (HBw2.out.mono HB1.out.size)⟩
set_option maxHeartbeats 8000000 in
set_option maxRecDepth 100000 in
theorem rcomp_while {ns:List Nd} {np:Option Addr} {nc:Nat} {rt:Int} {f:Nat} (hN:NodeDo ns np nc rt f) (o x:ByteArray) (kp wp pp ap rp:Option Addr) (PL AL RL kc wc pc ac rc:Nat) (WL:Nat) (w:World) (k0 k1:Int) (hk:KidsAt w (.slice kp 2 kc) [k0,k1]) (hok:okK ns f [k0,k1]=true) (ol:List UInt8) (ho:T ol=o) (hns:NsAt w (.slice np ns.length nc) ns) (e_if:(o.toList== [105,102])=false) (e_while:(o.toList== [119,104,105,108,101])=true) (hL:(loopS ol (kidsS ns f [k0,k1])).length≤BigL):
    Calls Tryz.prog 37 #[.agg #[.slice np ns.length nc,.int .i64 rt],.agg #[.string o,.string x,.slice kp 2 kc,.slice wp WL wc,.slice pp PL pc,.slice ap AL ac,.slice rp RL rc]] w fun e w'=>e= .returned (.string (T (loopS ol (kidsS ns f [k0,k1]))))∧Below w.heap.size w w':=by
  have HKC:=yH (fun (j:Nat) (k:Int) (hk: [k0,k1][j]? =some k) (hl:(nodeS ns f k.toNat).length≤BigL) (W:World) (hb:Below w.heap.size w W) (n:Nat)=>kid_call (kl:= [k0,k1]) hN hok hns hk hl hb n);obtain⟨NN,hNN⟩:∃NN,ns.length=NN:=⟨_,rfl⟩;rw[hNN]at HKC ⊢;have hk0:([k0,k1]:List Int)[0]? =some k0:=rfl;have hk1:([k0,k1]:List Int)[1]? =some k1:=rfl;rw[show loopS ol (kidsS ns f [k0,k1])=ol++ [32]++nodeS ns f k0.toNat++ [59,32,100,111,32]++nodeS ns f k1.toNat++ [59,32,100,111,110,101]from rfl]at hL ⊢;obtain⟨R,hRR⟩:∃R,ol++ [32]++nodeS ns f k0.toNat++ [59,32,100,111,32]++nodeS ns f k1.toNat++ [59,32,100,111,110,101]=R:=⟨_,rfl⟩;have hl:=congrArg List.length hRR;simp only[List.length_append]at hl;rw[hRR]at hL ⊢;have zo:o.size≤1152921504606846976:=(by rw[←ho,T_size];unfold BigL at hL;omega);have hz0:(nodeS ns f k0.toNat).length≤BigL:=(by omega);have HC0:=yH (HKC.out 0 k0 hk0 hz0);have z0:(T (nodeS ns f k0.toNat)).size≤1152921504606846976:=(by rw[T_size];exact hz0);have hz1:(nodeS ns f k1.toNat).length≤BigL:=(by omega);have HC1:=yH (HKC.out 1 k1 hk1 hz1);have z1:(T (nodeS ns f k1.toNat)).size≤1152921504606846976:=(by rw[T_size];exact hz1);have HQ:=yH (show o++⟨#[32]⟩++T (nodeS ns f k0.toNat)++⟨#[59,32,100,111,32]⟩++T (nodeS ns f k1.toNat)++⟨#[59,32,100,111,110,101]⟩=T R from by rw[←hRR,←ho];simp only[T_append]);obtain⟨r0,hr0⟩:∃r,T (nodeS ns f k0.toNat)=r:=⟨_,rfl⟩;obtain⟨r1,hr1⟩:∃r,T (nodeS ns f k1.toNat)=r:=⟨_,rfl⟩;rw[hr0]at HC0 z0 HQ;rw[hr1]at HC1 z1 HQ;obtain⟨kb,ko,rfl,hkc⟩:=kids_two hk;have HK0:=yH hkc;have s1:¬9223372036854775807<o.size+1:=(by omega);have s2:¬9223372036854775807<o.size+1+r0.size:=(by omega);have s3:¬9223372036854775807<o.size+1+r0.size+5:=(by omega);have s4:¬9223372036854775807<o.size+1+r0.size+5+r1.size:=(by omega);have s5:¬9223372036854775807<o.size+1+r0.size+5+r1.size+6:=(by omega);have HA:=yH (two_boxes w np NN nc rt o x);have HBX:=yH (fun (p q:Obj)=>(below_two w p q));clear hRR hl hL hok hns hk hk0 hk1 hr0 hr1 hkc hNN hz0 hz1 z0 z1 zo ho hN;go_enter Tryz.func37,Tryz.ntmps37;go_wp2_with fail;obtain⟨w1,hw1⟩:∃w1,(w.alloc (.cells #[.slice np NN nc,.int .i64 rt] 24)).alloc (.cells #[.string o,.string x,.slice (some ⟨kb,ko,none⟩) 2 kc,.slice wp WL wc,.slice pp PL pc,.slice ap AL ac,.slice rp RL rc] 44)=w1:=⟨_,rfl⟩;have HB1:=yH (show Below w.heap.size w w1 by rw[←hw1];exact HBX.out _ _);have HNC:=yH (fun W=>HA.out (.slice (some ⟨kb,ko,none⟩) 2 kc) (.slice wp WL wc) (.slice pp PL pc) (.slice ap AL ac) (.slice rp RL rc) 24 44 W w1 hw1.symm);rw[hw1];clear hw1;obtain⟨⟨p0,p1⟩,n0,n1,n2,n3, -⟩:=HNC.out w1 (Below.refl _ _);obtain⟨q0,q1⟩:=HK0.out w1 HB1.out;go_wp2_with fail;have HDw1:=yH (show w1.drew.cell? ⟨w.heap.size,0,none⟩=some (.slice np NN nc)∧w1.drew.cell? ⟨w.heap.size,1,none⟩=some (.int .i64 rt)∧w1.drew.cell? ⟨w.heap.size+1,0,none⟩=some (.string o)∧w1.drew.cell? ⟨w.heap.size+1,2,none⟩=some (.slice (some ⟨kb,ko,none⟩) 2 kc)∧w1.drew.cell? ⟨kb,ko,none⟩=some (.int .i64 k0)∧w1.drew.cell? ⟨kb,ko+1,none⟩=some (.int .i64 k1)from ⟨p0,p1,n0,n2,q0,q1⟩);refine wp_region_held_drew (S:=fun W=>W.cell? ⟨w.heap.size,0,none⟩=some (.slice np NN nc)∧W.cell? ⟨w.heap.size,1,none⟩=some (.int .i64 rt)∧W.cell? ⟨w.heap.size+1,0,none⟩=some (.string o)∧W.cell? ⟨w.heap.size+1,2,none⟩=some (.slice (some ⟨kb,ko,none⟩) 2 kc)∧W.cell? ⟨kb,ko,none⟩=some (.int .i64 k0)∧W.cell? ⟨kb,ko+1,none⟩=some (.int .i64 k1)) (by kernel_rfl) ?_ (fun hHeld=> ?_)
  · exact HDw1.out
  refine tkW 0 46 rfl rfl ?_ ?_ ?_;rotate_left
  · intro _ _;go_simp<;>(with_reducible rfl)
  simp only[pS];refine tkW 1 47 rfl rfl ?_ ?_ ?_;rotate_left
  · intro _ _;go_simp<;>(with_reducible rfl)
  simp only[pS];refine tkW 2 48 rfl rfl ?_ ?_ ?_;rotate_left
  · intro _ _;go_simp<;>(with_reducible rfl)
  simp only[pS];refine tkW 3 49 rfl rfl ?_ ?_ ?_;rotate_left
  · intro _ _;go_simp<;>(with_reducible rfl)
  simp only[pS];refine tkW 4 50 rfl rfl ?_ ?_ ?_;rotate_left
  · intro _ _;go_simp<;>(with_reducible rfl)
  simp only[pS];refine tkW 5 51 rfl rfl ?_ ?_ ?_;rotate_left
  · intro _ _;go_simp<;>(with_reducible rfl)
  simp only[pS];refine tkW 6 52 rfl rfl ?_ ?_ ?_;rotate_left
  · intro _ _;go_simp<;>(with_reducible rfl)
  simp only[pS];refine tkW 7 53 rfl rfl ?_ ?_ ?_;rotate_left
  · intro _ _;go_simp<;>(with_reducible rfl)
  simp only[pS];refine tkW 11 57 rfl rfl ?_ ?_ ?_;rotate_left
  · intro _ _;go_simp<;>(with_reducible rfl)
  simp only[pS];refine tkW 12 58 rfl rfl ?_ ?_ ?_;rotate_left
  · intro _ _;go_simp<;>(with_reducible rfl)
  simp only[pS];refine tkW 13 59 rfl rfl ?_ ?_ ?_;rotate_left
  · intro _ _;go_simp<;>(with_reducible rfl)
  simp only[pS];refine tkW 14 60 rfl rfl ?_ ?_ ?_;rotate_left
  · intro _ _;go_simp<;>(with_reducible rfl)
  simp only[pS];refine tkW 15 61 rfl rfl ?_ ?_ ?_;rotate_left
  · intro _ _;go_simp<;>(with_reducible rfl)
  simp only[pS];refine cW 8 rfl (fun K hK=> ?_);go_simp
  go_wp2_with (go_at_call 17;refine(HC0.out w1 HB1.out 1).mono ?_;rintro e w2 ⟨rfl,hbw2⟩;have hbw2:Below w1.heap.size w1 w2:=⟨hbw2.os,hbw2.tape,hbw2.output,hbw2.size,hbw2.block⟩;have Sw2:=yH (show w2.cell? ⟨w.heap.size,0,none⟩=some (.slice np NN nc)∧w2.cell? ⟨w.heap.size,1,none⟩=some (.int .i64 rt)∧w2.cell? ⟨w.heap.size+1,0,none⟩=some (.string o)∧w2.cell? ⟨w.heap.size+1,2,none⟩=some (.slice (some ⟨kb,ko,none⟩) 2 kc)∧w2.cell? ⟨kb,ko,none⟩=some (.int .i64 k0)∧w2.cell? ⟨kb,ko+1,none⟩=some (.int .i64 k1)from ⟨cell_below p0 hbw2,cell_below p1 hbw2,cell_below n0 hbw2,cell_below n2 hbw2,cell_below q0 hbw2,cell_below q1 hbw2⟩);have HBw2:=yH hbw2;clear hbw2)
  refine hK.out _ _ ?_ (fun hHeld=> ?_)
  · exact Sw2.out
  clear hK K;refine tkW 9 55 rfl rfl ?_ ?_ ?_;rotate_left
  · intro _ _;go_simp<;>(with_reducible rfl)
  simp only[pS];refine tkW 10 56 rfl rfl ?_ ?_ ?_;rotate_left
  · intro _ _;go_simp<;>(with_reducible rfl)
  simp only[pS];refine cW 16 rfl (fun K hK=> ?_);go_simp
  go_wp2_with (go_at_call 17;refine(HC1.out w2 (HB1.out.trans (HBw2.out.mono HB1.out.size)) 0).mono ?_;rintro e w3 ⟨rfl,hbw3⟩;have hbw3:Below w2.heap.size w2 w3:=⟨hbw3.os,hbw3.tape,hbw3.output,hbw3.size,hbw3.block⟩;have Sw3:=yH (show w3.cell? ⟨w.heap.size,0,none⟩=some (.slice np NN nc)∧w3.cell? ⟨w.heap.size,1,none⟩=some (.int .i64 rt)∧w3.cell? ⟨w.heap.size+1,0,none⟩=some (.string o)∧w3.cell? ⟨w.heap.size+1,2,none⟩=some (.slice (some ⟨kb,ko,none⟩) 2 kc)∧w3.cell? ⟨kb,ko,none⟩=some (.int .i64 k0)∧w3.cell? ⟨kb,ko+1,none⟩=some (.int .i64 k1)from ⟨cell_below Sw2.out.1 hbw3,cell_below Sw2.out.2.1 hbw3,cell_below Sw2.out.2.2.1 hbw3,cell_below Sw2.out.2.2.2.1 hbw3,cell_below Sw2.out.2.2.2.2.1 hbw3,cell_below Sw2.out.2.2.2.2.2 hbw3⟩);have HBw3:=yH (HBw2.out.trans (hbw3.mono HBw2.out.size));clear hbw3)
  refine hK.out _ _ ?_ (fun hHeld=> ?_)
  · exact Sw3.out
  clear hK K;refine tkW 17 63 rfl rfl ?_ ?_ ?_;rotate_left
  · intro _ _;go_simp<;>(with_reducible rfl)
  simp only[pS];refine tkW 18 64 rfl rfl ?_ ?_ ?_;rotate_left
  · intro _ _;go_simp<;>(with_reducible rfl)
  simp only[pS];refine tkW 19 4 rfl rfl ?_ ?_ ?_;rotate_left
  · intro _ _;go_simp<;>(with_reducible rfl)
  simp only[pS];refine wpAnyH_done (by kernel_rfl) ?_ _;go_wp2_with fail;go_ret;exact⟨by rw[←HQ.out];rfl,HB1.out.trans (HBw3.out.mono HB1.out.size)⟩
set_option maxHeartbeats 8000000 in
set_option maxRecDepth 100000 in
theorem rcomp_until {ns:List Nd} {np:Option Addr} {nc:Nat} {rt:Int} {f:Nat} (hN:NodeDo ns np nc rt f) (o x:ByteArray) (kp wp pp ap rp:Option Addr) (PL AL RL kc wc pc ac rc:Nat) (WL:Nat) (w:World) (k0 k1:Int) (hk:KidsAt w (.slice kp 2 kc) [k0,k1]) (hok:okK ns f [k0,k1]=true) (ol:List UInt8) (ho:T ol=o) (hns:NsAt w (.slice np ns.length nc) ns) (e_if:(o.toList== [105,102])=false) (e_while:(o.toList== [119,104,105,108,101])=false) (e_until:(o.toList== [117,110,116,105,108])=true) (hL:(loopS ol (kidsS ns f [k0,k1])).length≤BigL):
    Calls Tryz.prog 37 #[.agg #[.slice np ns.length nc,.int .i64 rt],.agg #[.string o,.string x,.slice kp 2 kc,.slice wp WL wc,.slice pp PL pc,.slice ap AL ac,.slice rp RL rc]] w fun e w'=>e= .returned (.string (T (loopS ol (kidsS ns f [k0,k1]))))∧Below w.heap.size w w':=by
  have HKC:=yH (fun (j:Nat) (k:Int) (hk: [k0,k1][j]? =some k) (hl:(nodeS ns f k.toNat).length≤BigL) (W:World) (hb:Below w.heap.size w W) (n:Nat)=>kid_call (kl:= [k0,k1]) hN hok hns hk hl hb n);obtain⟨NN,hNN⟩:∃NN,ns.length=NN:=⟨_,rfl⟩;rw[hNN]at HKC ⊢;have hk0:([k0,k1]:List Int)[0]? =some k0:=rfl;have hk1:([k0,k1]:List Int)[1]? =some k1:=rfl;rw[show loopS ol (kidsS ns f [k0,k1])=ol++ [32]++nodeS ns f k0.toNat++ [59,32,100,111,32]++nodeS ns f k1.toNat++ [59,32,100,111,110,101]from rfl]at hL ⊢;obtain⟨R,hRR⟩:∃R,ol++ [32]++nodeS ns f k0.toNat++ [59,32,100,111,32]++nodeS ns f k1.toNat++ [59,32,100,111,110,101]=R:=⟨_,rfl⟩;have hl:=congrArg List.length hRR;simp only[List.length_append]at hl;rw[hRR]at hL ⊢;have zo:o.size≤1152921504606846976:=(by rw[←ho,T_size];unfold BigL at hL;omega);have hz0:(nodeS ns f k0.toNat).length≤BigL:=(by omega);have HC0:=yH (HKC.out 0 k0 hk0 hz0);have z0:(T (nodeS ns f k0.toNat)).size≤1152921504606846976:=(by rw[T_size];exact hz0);have hz1:(nodeS ns f k1.toNat).length≤BigL:=(by omega);have HC1:=yH (HKC.out 1 k1 hk1 hz1);have z1:(T (nodeS ns f k1.toNat)).size≤1152921504606846976:=(by rw[T_size];exact hz1);have HQ:=yH (show o++⟨#[32]⟩++T (nodeS ns f k0.toNat)++⟨#[59,32,100,111,32]⟩++T (nodeS ns f k1.toNat)++⟨#[59,32,100,111,110,101]⟩=T R from by rw[←hRR,←ho];simp only[T_append]);obtain⟨r0,hr0⟩:∃r,T (nodeS ns f k0.toNat)=r:=⟨_,rfl⟩;obtain⟨r1,hr1⟩:∃r,T (nodeS ns f k1.toNat)=r:=⟨_,rfl⟩;rw[hr0]at HC0 z0 HQ;rw[hr1]at HC1 z1 HQ;obtain⟨kb,ko,rfl,hkc⟩:=kids_two hk;have HK0:=yH hkc;have s1:¬9223372036854775807<o.size+1:=(by omega);have s2:¬9223372036854775807<o.size+1+r0.size:=(by omega);have s3:¬9223372036854775807<o.size+1+r0.size+5:=(by omega);have s4:¬9223372036854775807<o.size+1+r0.size+5+r1.size:=(by omega);have s5:¬9223372036854775807<o.size+1+r0.size+5+r1.size+6:=(by omega);have HA:=yH (two_boxes w np NN nc rt o x);have HBX:=yH (fun (p q:Obj)=>(below_two w p q));clear hRR hl hL hok hns hk hk0 hk1 hr0 hr1 hkc hNN hz0 hz1 z0 z1 zo ho hN;go_enter Tryz.func37,Tryz.ntmps37;go_wp2_with fail;obtain⟨w1,hw1⟩:∃w1,(w.alloc (.cells #[.slice np NN nc,.int .i64 rt] 24)).alloc (.cells #[.string o,.string x,.slice (some ⟨kb,ko,none⟩) 2 kc,.slice wp WL wc,.slice pp PL pc,.slice ap AL ac,.slice rp RL rc] 44)=w1:=⟨_,rfl⟩;have HB1:=yH (show Below w.heap.size w w1 by rw[←hw1];exact HBX.out _ _);have HNC:=yH (fun W=>HA.out (.slice (some ⟨kb,ko,none⟩) 2 kc) (.slice wp WL wc) (.slice pp PL pc) (.slice ap AL ac) (.slice rp RL rc) 24 44 W w1 hw1.symm);rw[hw1];clear hw1;obtain⟨⟨p0,p1⟩,n0,n1,n2,n3, -⟩:=HNC.out w1 (Below.refl _ _);obtain⟨q0,q1⟩:=HK0.out w1 HB1.out;go_wp2_with fail;have HDw1:=yH (show w1.drew.cell? ⟨w.heap.size,0,none⟩=some (.slice np NN nc)∧w1.drew.cell? ⟨w.heap.size,1,none⟩=some (.int .i64 rt)∧w1.drew.cell? ⟨w.heap.size+1,0,none⟩=some (.string o)∧w1.drew.cell? ⟨w.heap.size+1,2,none⟩=some (.slice (some ⟨kb,ko,none⟩) 2 kc)∧w1.drew.cell? ⟨kb,ko,none⟩=some (.int .i64 k0)∧w1.drew.cell? ⟨kb,ko+1,none⟩=some (.int .i64 k1)from ⟨p0,p1,n0,n2,q0,q1⟩);refine wp_region_held_drew (S:=fun W=>W.cell? ⟨w.heap.size,0,none⟩=some (.slice np NN nc)∧W.cell? ⟨w.heap.size,1,none⟩=some (.int .i64 rt)∧W.cell? ⟨w.heap.size+1,0,none⟩=some (.string o)∧W.cell? ⟨w.heap.size+1,2,none⟩=some (.slice (some ⟨kb,ko,none⟩) 2 kc)∧W.cell? ⟨kb,ko,none⟩=some (.int .i64 k0)∧W.cell? ⟨kb,ko+1,none⟩=some (.int .i64 k1)) (by kernel_rfl) ?_ (fun hHeld=> ?_)
  · exact HDw1.out
  refine tkW 0 46 rfl rfl ?_ ?_ ?_;rotate_left
  · intro _ _;go_simp<;>(with_reducible rfl)
  simp only[pS];refine tkW 1 47 rfl rfl ?_ ?_ ?_;rotate_left
  · intro _ _;go_simp<;>(with_reducible rfl)
  simp only[pS];refine tkW 2 48 rfl rfl ?_ ?_ ?_;rotate_left
  · intro _ _;go_simp<;>(with_reducible rfl)
  simp only[pS];refine tkW 3 49 rfl rfl ?_ ?_ ?_;rotate_left
  · intro _ _;go_simp<;>(with_reducible rfl)
  simp only[pS];refine tkW 4 50 rfl rfl ?_ ?_ ?_;rotate_left
  · intro _ _;go_simp<;>(with_reducible rfl)
  simp only[pS];refine tkW 5 51 rfl rfl ?_ ?_ ?_;rotate_left
  · intro _ _;go_simp<;>(with_reducible rfl)
  simp only[pS];refine tkW 6 52 rfl rfl ?_ ?_ ?_;rotate_left
  · intro _ _;go_simp<;>(with_reducible rfl)
  simp only[pS];refine tkW 7 53 rfl rfl ?_ ?_ ?_;rotate_left
  · intro _ _;go_simp<;>(with_reducible rfl)
  simp only[pS];refine tkW 11 57 rfl rfl ?_ ?_ ?_;rotate_left
  · intro _ _;go_simp<;>(with_reducible rfl)
  simp only[pS];refine tkW 12 58 rfl rfl ?_ ?_ ?_;rotate_left
  · intro _ _;go_simp<;>(with_reducible rfl)
  simp only[pS];refine tkW 13 59 rfl rfl ?_ ?_ ?_;rotate_left
  · intro _ _;go_simp<;>(with_reducible rfl)
  simp only[pS];refine tkW 14 60 rfl rfl ?_ ?_ ?_;rotate_left
  · intro _ _;go_simp<;>(with_reducible rfl)
  simp only[pS];refine tkW 15 61 rfl rfl ?_ ?_ ?_;rotate_left
  · intro _ _;go_simp<;>(with_reducible rfl)
  simp only[pS];refine cW 8 rfl (fun K hK=> ?_);go_simp
  go_wp2_with (go_at_call 17;refine(HC0.out w1 HB1.out 1).mono ?_;rintro e w2 ⟨rfl,hbw2⟩;have hbw2:Below w1.heap.size w1 w2:=⟨hbw2.os,hbw2.tape,hbw2.output,hbw2.size,hbw2.block⟩;have Sw2:=yH (show w2.cell? ⟨w.heap.size,0,none⟩=some (.slice np NN nc)∧w2.cell? ⟨w.heap.size,1,none⟩=some (.int .i64 rt)∧w2.cell? ⟨w.heap.size+1,0,none⟩=some (.string o)∧w2.cell? ⟨w.heap.size+1,2,none⟩=some (.slice (some ⟨kb,ko,none⟩) 2 kc)∧w2.cell? ⟨kb,ko,none⟩=some (.int .i64 k0)∧w2.cell? ⟨kb,ko+1,none⟩=some (.int .i64 k1)from ⟨cell_below p0 hbw2,cell_below p1 hbw2,cell_below n0 hbw2,cell_below n2 hbw2,cell_below q0 hbw2,cell_below q1 hbw2⟩);have HBw2:=yH hbw2;clear hbw2)
  refine hK.out _ _ ?_ (fun hHeld=> ?_)
  · exact Sw2.out
  clear hK K;refine tkW 9 55 rfl rfl ?_ ?_ ?_;rotate_left
  · intro _ _;go_simp<;>(with_reducible rfl)
  simp only[pS];refine tkW 10 56 rfl rfl ?_ ?_ ?_;rotate_left
  · intro _ _;go_simp<;>(with_reducible rfl)
  simp only[pS];refine cW 16 rfl (fun K hK=> ?_);go_simp
  go_wp2_with (go_at_call 17;refine(HC1.out w2 (HB1.out.trans (HBw2.out.mono HB1.out.size)) 0).mono ?_;rintro e w3 ⟨rfl,hbw3⟩;have hbw3:Below w2.heap.size w2 w3:=⟨hbw3.os,hbw3.tape,hbw3.output,hbw3.size,hbw3.block⟩;have Sw3:=yH (show w3.cell? ⟨w.heap.size,0,none⟩=some (.slice np NN nc)∧w3.cell? ⟨w.heap.size,1,none⟩=some (.int .i64 rt)∧w3.cell? ⟨w.heap.size+1,0,none⟩=some (.string o)∧w3.cell? ⟨w.heap.size+1,2,none⟩=some (.slice (some ⟨kb,ko,none⟩) 2 kc)∧w3.cell? ⟨kb,ko,none⟩=some (.int .i64 k0)∧w3.cell? ⟨kb,ko+1,none⟩=some (.int .i64 k1)from ⟨cell_below Sw2.out.1 hbw3,cell_below Sw2.out.2.1 hbw3,cell_below Sw2.out.2.2.1 hbw3,cell_below Sw2.out.2.2.2.1 hbw3,cell_below Sw2.out.2.2.2.2.1 hbw3,cell_below Sw2.out.2.2.2.2.2 hbw3⟩);have HBw3:=yH (HBw2.out.trans (hbw3.mono HBw2.out.size));clear hbw3)
  refine hK.out _ _ ?_ (fun hHeld=> ?_)
  · exact Sw3.out
  clear hK K;refine tkW 17 63 rfl rfl ?_ ?_ ?_;rotate_left
  · intro _ _;go_simp<;>(with_reducible rfl)
  simp only[pS];refine tkW 18 64 rfl rfl ?_ ?_ ?_;rotate_left
  · intro _ _;go_simp<;>(with_reducible rfl)
  simp only[pS];refine tkW 19 4 rfl rfl ?_ ?_ ?_;rotate_left
  · intro _ _;go_simp<;>(with_reducible rfl)
  simp only[pS];refine wpAnyH_done (by kernel_rfl) ?_ _;go_wp2_with fail;go_ret;exact⟨by rw[←HQ.out];rfl,HB1.out.trans (HBw3.out.mono HB1.out.size)⟩
set_option maxHeartbeats 8000000 in
set_option maxRecDepth 100000 in
theorem rcomp_if2 {ns:List Nd} {np:Option Addr} {nc:Nat} {rt:Int} {f:Nat} (hN:NodeDo ns np nc rt f) (o x:ByteArray) (kp wp pp ap rp:Option Addr) (PL AL RL kc wc pc ac rc:Nat) (WL:Nat) (w:World) (k0 k1:Int) (hk:KidsAt w (.slice kp 2 kc) [k0,k1]) (hok:okK ns f [k0,k1]=true) (hns:NsAt w (.slice np ns.length nc) ns) (e_if:(o.toList== [105,102])=true) (hL:(ifS (kidsS ns f [k0,k1])).length≤BigL):
    Calls Tryz.prog 37 #[.agg #[.slice np ns.length nc,.int .i64 rt],.agg #[.string o,.string x,.slice kp 2 kc,.slice wp WL wc,.slice pp PL pc,.slice ap AL ac,.slice rp RL rc]] w fun e w'=>e= .returned (.string (T (ifS (kidsS ns f [k0,k1]))))∧Below w.heap.size w w':=by
  have HKC:=yH (fun (j:Nat) (k:Int) (hk: [k0,k1][j]? =some k) (hl:(nodeS ns f k.toNat).length≤BigL) (W:World) (hb:Below w.heap.size w W) (n:Nat)=>kid_call (kl:= [k0,k1]) hN hok hns hk hl hb n);obtain⟨NN,hNN⟩:∃NN,ns.length=NN:=⟨_,rfl⟩;rw[hNN]at HKC ⊢;have hk0:([k0,k1]:List Int)[0]? =some k0:=rfl;have hk1:([k0,k1]:List Int)[1]? =some k1:=rfl;rw[show ifS (kidsS ns f [k0,k1])= [105,102,32]++nodeS ns f k0.toNat++ [59,32,116,104,101,110,32]++nodeS ns f k1.toNat++ [59,32]++ [102,105]from rfl]at hL ⊢;obtain⟨R,hRR⟩:∃R,[105,102,32]++nodeS ns f k0.toNat++ [59,32,116,104,101,110,32]++nodeS ns f k1.toNat++ [59,32]++ [102,105]=R:=⟨_,rfl⟩;have hl:=congrArg List.length hRR;simp only[List.length_append]at hl;rw[hRR]at hL ⊢;have hz0:(nodeS ns f k0.toNat).length≤BigL:=(by omega);have HC0:=yH (HKC.out 0 k0 hk0 hz0);have z0:(T (nodeS ns f k0.toNat)).size≤1152921504606846976:=(by rw[T_size];exact hz0);have hz1:(nodeS ns f k1.toNat).length≤BigL:=(by omega);have HC1:=yH (HKC.out 1 k1 hk1 hz1);have z1:(T (nodeS ns f k1.toNat)).size≤1152921504606846976:=(by rw[T_size];exact hz1);have HQ:=yH (show⟨#[105,102,32]⟩++T (nodeS ns f k0.toNat)++⟨#[59,32,116,104,101,110,32]⟩++T (nodeS ns f k1.toNat)++⟨#[59,32]⟩++⟨#[102,105]⟩=T R from by rw[←hRR];simp only[T_append]);obtain⟨r0,hr0⟩:∃r,T (nodeS ns f k0.toNat)=r:=⟨_,rfl⟩;rw[hr0]at HC0 z0 HQ;obtain⟨r1,hr1⟩:∃r,T (nodeS ns f k1.toNat)=r:=⟨_,rfl⟩;rw[hr1]at HC1 z1 HQ;obtain⟨kb,ko,rfl,hkc⟩:=kids_two hk;have HK0:=yH hkc;have s1:¬9223372036854775807<3+r0.size:=(by omega);have s2:¬9223372036854775807<3+r0.size+7:=(by omega);have s3:¬9223372036854775807<3+r0.size+7+r1.size:=(by omega);have s4:¬9223372036854775807<3+r0.size+7+r1.size+2:=(by omega);obtain⟨A,hA⟩:∃A:ByteArray,⟨#[105,102,32]⟩++r0++⟨#[59,32,116,104,101,110,32]⟩++r1++⟨#[59,32]⟩=A:=⟨_,rfl⟩;have zA:A.size=3+r0.size+7+r1.size+2:=(by rw[←hA];simp only[ByteArray.size_append];rfl);have HAA:=yH hA;rw[hA]at HQ;have i1:¬(9223372036854775807:Int)<(A.size:Int)+2:=(by omega);have HA:=yH (two_boxes w np NN nc rt o x);have HBX:=yH (fun (p q:Obj)=>(below_two w p q));clear hRR hl hL hok hns hk hk0 hr0 hz0 z0 hk1 hr1 hz1 z1 hkc hNN hA zA hN;go_enter Tryz.func37,Tryz.ntmps37;go_wp2_with fail;obtain⟨w1,hw1⟩:∃w1,(w.alloc (.cells #[.slice np NN nc,.int .i64 rt] 24)).alloc (.cells #[.string o,.string x,.slice (some ⟨kb,ko,none⟩) 2 kc,.slice wp WL wc,.slice pp PL pc,.slice ap AL ac,.slice rp RL rc] 44)=w1:=⟨_,rfl⟩;have HB1:=yH (show Below w.heap.size w w1 by rw[←hw1];exact HBX.out _ _);have HNC:=yH (fun W=>HA.out (.slice (some ⟨kb,ko,none⟩) 2 kc) (.slice wp WL wc) (.slice pp PL pc) (.slice ap AL ac) (.slice rp RL rc) 24 44 W w1 hw1.symm);rw[hw1];clear hw1;obtain⟨⟨p0,p1⟩,n0,n1,n2,n3, -⟩:=HNC.out w1 (Below.refl _ _);obtain⟨q0,q1⟩:=HK0.out w1 HB1.out;go_wp2_with fail;have HDw1:=yH (show w1.drew.cell? ⟨w.heap.size,0,none⟩=some (.slice np NN nc)∧w1.drew.cell? ⟨w.heap.size,1,none⟩=some (.int .i64 rt)∧w1.drew.cell? ⟨w.heap.size+1,2,none⟩=some (.slice (some ⟨kb,ko,none⟩) 2 kc)∧w1.drew.cell? ⟨kb,ko,none⟩=some (.int .i64 k0)∧w1.drew.cell? ⟨kb,ko+1,none⟩=some (.int .i64 k1)from ⟨p0,p1,n2,q0,q1⟩);refine wp_region_held_drew (S:=fun W=>W.cell? ⟨w.heap.size,0,none⟩=some (.slice np NN nc)∧W.cell? ⟨w.heap.size,1,none⟩=some (.int .i64 rt)∧W.cell? ⟨w.heap.size+1,2,none⟩=some (.slice (some ⟨kb,ko,none⟩) 2 kc)∧W.cell? ⟨kb,ko,none⟩=some (.int .i64 k0)∧W.cell? ⟨kb,ko+1,none⟩=some (.int .i64 k1)) (by kernel_rfl) ?_ (fun hHeld=> ?_)
  · exact HDw1.out
  refine tkW 0 11 rfl rfl ?_ ?_ ?_;rotate_left
  · intro _ _;go_simp<;>(with_reducible rfl)
  simp only[pS];refine tkW 1 12 rfl rfl ?_ ?_ ?_;rotate_left
  · intro _ _;go_simp<;>(with_reducible rfl)
  simp only[pS];refine tkW 2 13 rfl rfl ?_ ?_ ?_;rotate_left
  · intro _ _;go_simp<;>(with_reducible rfl)
  simp only[pS];refine tkW 3 14 rfl rfl ?_ ?_ ?_;rotate_left
  · intro _ _;go_simp<;>(with_reducible rfl)
  simp only[pS];refine tkW 4 15 rfl rfl ?_ ?_ ?_;rotate_left
  · intro _ _;go_simp<;>(with_reducible rfl)
  simp only[pS];refine tkW 8 19 rfl rfl ?_ ?_ ?_;rotate_left
  · intro _ _;go_simp<;>(with_reducible rfl)
  simp only[pS];refine tkW 9 20 rfl rfl ?_ ?_ ?_;rotate_left
  · intro _ _;go_simp<;>(with_reducible rfl)
  simp only[pS];refine tkW 10 21 rfl rfl ?_ ?_ ?_;rotate_left
  · intro _ _;go_simp<;>(with_reducible rfl)
  simp only[pS];refine tkW 11 22 rfl rfl ?_ ?_ ?_;rotate_left
  · intro _ _;go_simp<;>(with_reducible rfl)
  simp only[pS];refine tkW 12 23 rfl rfl ?_ ?_ ?_;rotate_left
  · intro _ _;go_simp<;>(with_reducible rfl)
  simp only[pS];refine cW 5 rfl (fun K hK=> ?_);go_simp
  go_wp2_with (go_at_call 17;refine(HC0.out w1 HB1.out 1).mono ?_;rintro e w2 ⟨rfl,hbw2⟩;have hbw2:Below w1.heap.size w1 w2:=⟨hbw2.os,hbw2.tape,hbw2.output,hbw2.size,hbw2.block⟩;have Sw2:=yH (show w2.cell? ⟨w.heap.size,0,none⟩=some (.slice np NN nc)∧w2.cell? ⟨w.heap.size,1,none⟩=some (.int .i64 rt)∧w2.cell? ⟨w.heap.size+1,2,none⟩=some (.slice (some ⟨kb,ko,none⟩) 2 kc)∧w2.cell? ⟨kb,ko,none⟩=some (.int .i64 k0)∧w2.cell? ⟨kb,ko+1,none⟩=some (.int .i64 k1)from ⟨cell_below p0 hbw2,cell_below p1 hbw2,cell_below n2 hbw2,cell_below q0 hbw2,cell_below q1 hbw2⟩);have HBw2:=yH hbw2;clear hbw2)
  refine hK.out _ _ ?_ (fun hHeld=> ?_)
  · exact Sw2.out
  clear hK K;refine tkW 6 17 rfl rfl ?_ ?_ ?_;rotate_left
  · intro _ _;go_simp<;>(with_reducible rfl)
  simp only[pS];refine tkW 7 18 rfl rfl ?_ ?_ ?_;rotate_left
  · intro _ _;go_simp<;>(with_reducible rfl)
  simp only[pS];refine cW 13 rfl (fun K hK=> ?_);go_simp
  go_wp2_with (go_at_call 17;refine(HC1.out w2 (HB1.out.trans (HBw2.out.mono HB1.out.size)) 0).mono ?_;rintro e w3 ⟨rfl,hbw3⟩;have hbw3:Below w2.heap.size w2 w3:=⟨hbw3.os,hbw3.tape,hbw3.output,hbw3.size,hbw3.block⟩;have Sw3:=yH (show w3.cell? ⟨w.heap.size,0,none⟩=some (.slice np NN nc)∧w3.cell? ⟨w.heap.size,1,none⟩=some (.int .i64 rt)∧w3.cell? ⟨w.heap.size+1,2,none⟩=some (.slice (some ⟨kb,ko,none⟩) 2 kc)∧w3.cell? ⟨kb,ko,none⟩=some (.int .i64 k0)∧w3.cell? ⟨kb,ko+1,none⟩=some (.int .i64 k1)from ⟨cell_below Sw2.out.1 hbw3,cell_below Sw2.out.2.1 hbw3,cell_below Sw2.out.2.2.1 hbw3,cell_below Sw2.out.2.2.2.1 hbw3,cell_below Sw2.out.2.2.2.2 hbw3⟩);have HBw3:=yH (HBw2.out.trans (hbw3.mono HBw2.out.size));clear hbw3)
  refine hK.out _ _ ?_ (fun hHeld=> ?_)
  · exact Sw3.out
  clear hK K;refine tkW 14 25 rfl rfl ?_ ?_ ?_;rotate_left
  · intro _ _;go_simp<;>(with_reducible rfl)
  simp only[pS];refine tkW 15 26 rfl rfl ?_ ?_ ?_;rotate_left
  · intro _ _;go_simp<;>(with_reducible rfl)
  simp only[pS];refine tkW 16 5 rfl rfl ?_ ?_ ?_;rotate_left
  · intro _ _;go_simp<;>(with_reducible rfl)
  simp only[pS];refine wpAnyH_done (by kernel_rfl) ?_ _;rw[HAA.out];have HB3:=yH (HB1.out.trans (HBw3.out.mono HB1.out.size));clear p0 p1 n0 n1 n2 n3 q0 q1;have n2:=Sw3.out.2.2.1;go_wp2_with fail;go_ret;exact⟨by rw[←HQ.out];rfl,HB3.out⟩
set_option maxHeartbeats 8000000 in
set_option maxRecDepth 100000 in
theorem rcomp_if3 {ns:List Nd} {np:Option Addr} {nc:Nat} {rt:Int} {f:Nat} (hN:NodeDo ns np nc rt f) (o x:ByteArray) (kp wp pp ap rp:Option Addr) (PL AL RL kc wc pc ac rc:Nat) (WL:Nat) (w:World) (k0 k1 k2:Int) (hk:KidsAt w (.slice kp 3 kc) [k0,k1,k2]) (hok:okK ns f [k0,k1,k2]=true) (hns:NsAt w (.slice np ns.length nc) ns) (e_if:(o.toList== [105,102])=true) (hL:(ifS (kidsS ns f [k0,k1,k2])).length≤BigL):
    Calls Tryz.prog 37 #[.agg #[.slice np ns.length nc,.int .i64 rt],.agg #[.string o,.string x,.slice kp 3 kc,.slice wp WL wc,.slice pp PL pc,.slice ap AL ac,.slice rp RL rc]] w fun e w'=>e= .returned (.string (T (ifS (kidsS ns f [k0,k1,k2]))))∧Below w.heap.size w w':=by
  have HKC:=yH (fun (j:Nat) (k:Int) (hk: [k0,k1,k2][j]? =some k) (hl:(nodeS ns f k.toNat).length≤BigL) (W:World) (hb:Below w.heap.size w W) (n:Nat)=>kid_call (kl:= [k0,k1,k2]) hN hok hns hk hl hb n);obtain⟨NN,hNN⟩:∃NN,ns.length=NN:=⟨_,rfl⟩;rw[hNN]at HKC ⊢;have hk0:([k0,k1,k2]:List Int)[0]? =some k0:=rfl;have hk1:([k0,k1,k2]:List Int)[1]? =some k1:=rfl;have hk2:([k0,k1,k2]:List Int)[2]? =some k2:=rfl;rw[show ifS (kidsS ns f [k0,k1,k2])= [105,102,32]++nodeS ns f k0.toNat++ [59,32,116,104,101,110,32]++nodeS ns f k1.toNat++ [59,32]++ [101,108,115,101,32]++nodeS ns f k2.toNat++ [59,32]++ [102,105]from rfl]at hL ⊢;obtain⟨R,hRR⟩:∃R,[105,102,32]++nodeS ns f k0.toNat++ [59,32,116,104,101,110,32]++nodeS ns f k1.toNat++ [59,32]++ [101,108,115,101,32]++nodeS ns f k2.toNat++ [59,32]++ [102,105]=R:=⟨_,rfl⟩;have hl:=congrArg List.length hRR;simp only[List.length_append]at hl;rw[hRR]at hL ⊢;have hz0:(nodeS ns f k0.toNat).length≤BigL:=(by omega);have HC0:=yH (HKC.out 0 k0 hk0 hz0);have z0:(T (nodeS ns f k0.toNat)).size≤1152921504606846976:=(by rw[T_size];exact hz0);have hz1:(nodeS ns f k1.toNat).length≤BigL:=(by omega);have HC1:=yH (HKC.out 1 k1 hk1 hz1);have z1:(T (nodeS ns f k1.toNat)).size≤1152921504606846976:=(by rw[T_size];exact hz1);have hz2:(nodeS ns f k2.toNat).length≤BigL:=(by omega);have HC2:=yH (HKC.out 2 k2 hk2 hz2);have z2:(T (nodeS ns f k2.toNat)).size≤1152921504606846976:=(by rw[T_size];exact hz2);have HQ:=yH (show⟨#[105,102,32]⟩++T (nodeS ns f k0.toNat)++⟨#[59,32,116,104,101,110,32]⟩++T (nodeS ns f k1.toNat)++⟨#[59,32]⟩++⟨#[101,108,115,101,32]⟩++T (nodeS ns f k2.toNat)++⟨#[59,32]⟩++⟨#[102,105]⟩=T R from by rw[←hRR];simp only[T_append]);obtain⟨r0,hr0⟩:∃r,T (nodeS ns f k0.toNat)=r:=⟨_,rfl⟩;rw[hr0]at HC0 z0 HQ;obtain⟨r1,hr1⟩:∃r,T (nodeS ns f k1.toNat)=r:=⟨_,rfl⟩;rw[hr1]at HC1 z1 HQ;obtain⟨r2,hr2⟩:∃r,T (nodeS ns f k2.toNat)=r:=⟨_,rfl⟩;rw[hr2]at HC2 z2 HQ;obtain⟨kb,ko,rfl,hkc⟩:=kids_three hk;have HK0:=yH hkc;have s1:¬9223372036854775807<3+r0.size:=(by omega);have s2:¬9223372036854775807<3+r0.size+7:=(by omega);have s3:¬9223372036854775807<3+r0.size+7+r1.size:=(by omega);have s4:¬9223372036854775807<3+r0.size+7+r1.size+2:=(by omega);obtain⟨A,hA⟩:∃A:ByteArray,⟨#[105,102,32]⟩++r0++⟨#[59,32,116,104,101,110,32]⟩++r1++⟨#[59,32]⟩=A:=⟨_,rfl⟩;have zA:A.size=3+r0.size+7+r1.size+2:=(by rw[←hA];simp only[ByteArray.size_append];rfl);have HAA:=yH hA;rw[hA]at HQ;have s5:¬9223372036854775807<A.size+5:=(by omega);have s6:¬9223372036854775807<A.size+5+r2.size:=(by omega);have s7:¬9223372036854775807<A.size+5+r2.size+2:=(by omega);have i1:¬(9223372036854775807:Int)<(A.size:Int)+5+(r2.size:Int)+2+2:=(by omega);have HA:=yH (two_boxes w np NN nc rt o x);have HBX:=yH (fun (p q:Obj)=>(below_two w p q));clear hRR hl hL hok hns hk hk0 hr0 hz0 z0 hk1 hr1 hz1 z1 hk2 hr2 hz2 z2 hkc hNN hA zA hN;go_enter Tryz.func37,Tryz.ntmps37;go_wp2_with fail;obtain⟨w1,hw1⟩:∃w1,(w.alloc (.cells #[.slice np NN nc,.int .i64 rt] 24)).alloc (.cells #[.string o,.string x,.slice (some ⟨kb,ko,none⟩) 3 kc,.slice wp WL wc,.slice pp PL pc,.slice ap AL ac,.slice rp RL rc] 44)=w1:=⟨_,rfl⟩;have HB1:=yH (show Below w.heap.size w w1 by rw[←hw1];exact HBX.out _ _);have HNC:=yH (fun W=>HA.out (.slice (some ⟨kb,ko,none⟩) 3 kc) (.slice wp WL wc) (.slice pp PL pc) (.slice ap AL ac) (.slice rp RL rc) 24 44 W w1 hw1.symm);rw[hw1];clear hw1;obtain⟨⟨p0,p1⟩,n0,n1,n2,n3, -⟩:=HNC.out w1 (Below.refl _ _);obtain⟨q0,q1,q2⟩:=HK0.out w1 HB1.out;go_wp2_with fail;have HDw1:=yH (show w1.drew.cell? ⟨w.heap.size,0,none⟩=some (.slice np NN nc)∧w1.drew.cell? ⟨w.heap.size,1,none⟩=some (.int .i64 rt)∧w1.drew.cell? ⟨w.heap.size+1,2,none⟩=some (.slice (some ⟨kb,ko,none⟩) 3 kc)∧w1.drew.cell? ⟨kb,ko,none⟩=some (.int .i64 k0)∧w1.drew.cell? ⟨kb,ko+1,none⟩=some (.int .i64 k1)from ⟨p0,p1,n2,q0,q1⟩);refine wp_region_held_drew (S:=fun W=>W.cell? ⟨w.heap.size,0,none⟩=some (.slice np NN nc)∧W.cell? ⟨w.heap.size,1,none⟩=some (.int .i64 rt)∧W.cell? ⟨w.heap.size+1,2,none⟩=some (.slice (some ⟨kb,ko,none⟩) 3 kc)∧W.cell? ⟨kb,ko,none⟩=some (.int .i64 k0)∧W.cell? ⟨kb,ko+1,none⟩=some (.int .i64 k1)) (by kernel_rfl) ?_ (fun hHeld=> ?_)
  · exact HDw1.out
  refine tkW 0 11 rfl rfl ?_ ?_ ?_;rotate_left
  · intro _ _;go_simp<;>(with_reducible rfl)
  simp only[pS];refine tkW 1 12 rfl rfl ?_ ?_ ?_;rotate_left
  · intro _ _;go_simp<;>(with_reducible rfl)
  simp only[pS];refine tkW 2 13 rfl rfl ?_ ?_ ?_;rotate_left
  · intro _ _;go_simp<;>(with_reducible rfl)
  simp only[pS];refine tkW 3 14 rfl rfl ?_ ?_ ?_;rotate_left
  · intro _ _;go_simp<;>(with_reducible rfl)
  simp only[pS];refine tkW 4 15 rfl rfl ?_ ?_ ?_;rotate_left
  · intro _ _;go_simp<;>(with_reducible rfl)
  simp only[pS];refine tkW 8 19 rfl rfl ?_ ?_ ?_;rotate_left
  · intro _ _;go_simp<;>(with_reducible rfl)
  simp only[pS];refine tkW 9 20 rfl rfl ?_ ?_ ?_;rotate_left
  · intro _ _;go_simp<;>(with_reducible rfl)
  simp only[pS];refine tkW 10 21 rfl rfl ?_ ?_ ?_;rotate_left
  · intro _ _;go_simp<;>(with_reducible rfl)
  simp only[pS];refine tkW 11 22 rfl rfl ?_ ?_ ?_;rotate_left
  · intro _ _;go_simp<;>(with_reducible rfl)
  simp only[pS];refine tkW 12 23 rfl rfl ?_ ?_ ?_;rotate_left
  · intro _ _;go_simp<;>(with_reducible rfl)
  simp only[pS];refine cW 5 rfl (fun K hK=> ?_);go_simp
  go_wp2_with (go_at_call 17;refine(HC0.out w1 HB1.out 1).mono ?_;rintro e w2 ⟨rfl,hbw2⟩;have hbw2:Below w1.heap.size w1 w2:=⟨hbw2.os,hbw2.tape,hbw2.output,hbw2.size,hbw2.block⟩;have Sw2:=yH (show w2.cell? ⟨w.heap.size,0,none⟩=some (.slice np NN nc)∧w2.cell? ⟨w.heap.size,1,none⟩=some (.int .i64 rt)∧w2.cell? ⟨w.heap.size+1,2,none⟩=some (.slice (some ⟨kb,ko,none⟩) 3 kc)∧w2.cell? ⟨kb,ko,none⟩=some (.int .i64 k0)∧w2.cell? ⟨kb,ko+1,none⟩=some (.int .i64 k1)from ⟨cell_below p0 hbw2,cell_below p1 hbw2,cell_below n2 hbw2,cell_below q0 hbw2,cell_below q1 hbw2⟩);have HBw2:=yH hbw2;clear hbw2)
  refine hK.out _ _ ?_ (fun hHeld=> ?_)
  · exact Sw2.out
  clear hK K;refine tkW 6 17 rfl rfl ?_ ?_ ?_;rotate_left
  · intro _ _;go_simp<;>(with_reducible rfl)
  simp only[pS];refine tkW 7 18 rfl rfl ?_ ?_ ?_;rotate_left
  · intro _ _;go_simp<;>(with_reducible rfl)
  simp only[pS];refine cW 13 rfl (fun K hK=> ?_);go_simp
  go_wp2_with (go_at_call 17;refine(HC1.out w2 (HB1.out.trans (HBw2.out.mono HB1.out.size)) 0).mono ?_;rintro e w3 ⟨rfl,hbw3⟩;have hbw3:Below w2.heap.size w2 w3:=⟨hbw3.os,hbw3.tape,hbw3.output,hbw3.size,hbw3.block⟩;have Sw3:=yH (show w3.cell? ⟨w.heap.size,0,none⟩=some (.slice np NN nc)∧w3.cell? ⟨w.heap.size,1,none⟩=some (.int .i64 rt)∧w3.cell? ⟨w.heap.size+1,2,none⟩=some (.slice (some ⟨kb,ko,none⟩) 3 kc)∧w3.cell? ⟨kb,ko,none⟩=some (.int .i64 k0)∧w3.cell? ⟨kb,ko+1,none⟩=some (.int .i64 k1)from ⟨cell_below Sw2.out.1 hbw3,cell_below Sw2.out.2.1 hbw3,cell_below Sw2.out.2.2.1 hbw3,cell_below Sw2.out.2.2.2.1 hbw3,cell_below Sw2.out.2.2.2.2 hbw3⟩);have HBw3:=yH (HBw2.out.trans (hbw3.mono HBw2.out.size));clear hbw3)
  refine hK.out _ _ ?_ (fun hHeld=> ?_)
  · exact Sw3.out
  clear hK K;refine tkW 14 25 rfl rfl ?_ ?_ ?_;rotate_left
  · intro _ _;go_simp<;>(with_reducible rfl)
  simp only[pS];refine tkW 15 26 rfl rfl ?_ ?_ ?_;rotate_left
  · intro _ _;go_simp<;>(with_reducible rfl)
  simp only[pS];refine tkW 16 5 rfl rfl ?_ ?_ ?_;rotate_left
  · intro _ _;go_simp<;>(with_reducible rfl)
  simp only[pS];refine wpAnyH_done (by kernel_rfl) ?_ _;rw[HAA.out];have HB3:=yH (HB1.out.trans (HBw3.out.mono HB1.out.size));clear p0 p1 n0 n1 n2 n3 q0 q1 q2;obtain⟨q0,q1,q2⟩:=HK0.out w3 HB3.out;have p0:=Sw3.out.1;have p1:=Sw3.out.2.1;have n2:=Sw3.out.2.2.1;go_wp2_with fail;have HDw3:=yH (show w3.drew.cell? ⟨w.heap.size,0,none⟩=some (.slice np NN nc)∧w3.drew.cell? ⟨w.heap.size,1,none⟩=some (.int .i64 rt)∧w3.drew.cell? ⟨w.heap.size+1,2,none⟩=some (.slice (some ⟨kb,ko,none⟩) 3 kc)∧w3.drew.cell? ⟨kb,ko+2,none⟩=some (.int .i64 k2)from ⟨p0,p1,n2,q2⟩);refine wp_region_held_drew (S:=fun W=>W.cell? ⟨w.heap.size,0,none⟩=some (.slice np NN nc)∧W.cell? ⟨w.heap.size,1,none⟩=some (.int .i64 rt)∧W.cell? ⟨w.heap.size+1,2,none⟩=some (.slice (some ⟨kb,ko,none⟩) 3 kc)∧W.cell? ⟨kb,ko+2,none⟩=some (.int .i64 k2)) (by kernel_rfl) ?_ (fun hHeld=> ?_)
  · exact HDw3.out
  refine tkW 0 31 rfl rfl ?_ ?_ ?_;rotate_left
  · intro _ _;go_simp<;>(with_reducible rfl)
  simp only[pS];refine tkW 1 32 rfl rfl ?_ ?_ ?_;rotate_left
  · intro _ _;go_simp<;>(with_reducible rfl)
  simp only[pS];refine tkW 2 33 rfl rfl ?_ ?_ ?_;rotate_left
  · intro _ _;go_simp<;>(with_reducible rfl)
  simp only[pS];refine tkW 3 34 rfl rfl ?_ ?_ ?_;rotate_left
  · intro _ _;go_simp<;>(with_reducible rfl)
  simp only[pS];refine tkW 4 35 rfl rfl ?_ ?_ ?_;rotate_left
  · intro _ _;go_simp<;>(with_reducible rfl)
  simp only[pS];refine tkW 5 36 rfl rfl ?_ ?_ ?_;rotate_left
  · intro _ _;go_simp<;>(with_reducible rfl)
  simp only[pS];refine tkW 6 37 rfl rfl ?_ ?_ ?_;rotate_left
  · intro _ _;go_simp<;>(with_reducible rfl)
  simp only[pS];refine cW 7 rfl (fun K hK=> ?_);go_simp
  go_wp2_with (go_at_call 17;refine(HC2.out w3 HB3.out 1).mono ?_;rintro e w4 ⟨rfl,hbw4⟩;have hbw4:Below w3.heap.size w3 w4:=⟨hbw4.os,hbw4.tape,hbw4.output,hbw4.size,hbw4.block⟩;have Sw4:=yH (show w4.cell? ⟨w.heap.size,0,none⟩=some (.slice np NN nc)∧w4.cell? ⟨w.heap.size,1,none⟩=some (.int .i64 rt)∧w4.cell? ⟨w.heap.size+1,2,none⟩=some (.slice (some ⟨kb,ko,none⟩) 3 kc)∧w4.cell? ⟨kb,ko+2,none⟩=some (.int .i64 k2)from ⟨cell_below p0 hbw4,cell_below p1 hbw4,cell_below n2 hbw4,cell_below q2 hbw4⟩);have HBw4:=yH hbw4;clear hbw4)
  refine hK.out _ _ ?_ (fun hHeld=> ?_)
  · exact Sw4.out
  clear hK K;refine tkW 8 39 rfl rfl ?_ ?_ ?_;rotate_left
  · intro _ _;go_simp<;>(with_reducible rfl)
  simp only[pS];refine tkW 9 40 rfl rfl ?_ ?_ ?_;rotate_left
  · intro _ _;go_simp<;>(with_reducible rfl)
  simp only[pS];refine tkW 10 5 rfl rfl ?_ ?_ ?_;rotate_left
  · intro _ _;go_simp<;>(with_reducible rfl)
  simp only[pS];refine wpAnyH_done (by kernel_rfl) ?_ _;go_wp2_with fail;go_ret;exact⟨by rw[←HQ.out];rfl,HB3.out.trans (HBw4.out.mono HB3.out.size)⟩
end Go.Proofs.YtakceggnadagmaaGreatDoor
