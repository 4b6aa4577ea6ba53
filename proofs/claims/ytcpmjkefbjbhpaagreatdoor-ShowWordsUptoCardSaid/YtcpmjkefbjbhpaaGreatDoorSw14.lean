/-
  Proved: contracts of functions, plain facts. Conditions: as each says.
-/
import Derived.Test.YtcpmjkefbjbhpaaGreatDoorSw13
namespace Go.Proofs.YtcpmjkefbjbhpaaGreatDoor
open Go Go.RowKit GlyphMath LexMath TreeMath
set_option maxRecDepth 100000 in
theorem plain_any (ps:List Pt) (v:Value) (w:World) (hv:PsAt w v ps):
    Calls Tryz.prog 175 #[wordV v] w fun e w'=>e= .returned (.tuple #[.string (T ((plainT ps).getD [])),.bool (plainT ps).isSome])∧Below w.heap.size w w':=by
  have HB:=yH (fun o=>below_one w o);unfold wordV
  by_cases h1:∃q,ps= [q]
  · obtain⟨q,rfl⟩:=h1
    obtain⟨b,o,c,u,rfl,⟨up,uc,rfl⟩,c0,c1,c2,c3,c4⟩:=first_cells hv;have HI:=yH (fun W=>isBare_any q (.slice up q.word.length uc) W);obtain⟨s,hs⟩:∃s,T q.text=s:=⟨_,rfl⟩;obtain⟨s2,hs2⟩:∃s,T q.op=s:=⟨_,rfl⟩;obtain⟨kd,hkd⟩:∃s,q.kind=s:=⟨_,rfl⟩;obtain⟨qq,hqq⟩:∃s,q.q=s:=⟨_,rfl⟩;obtain⟨ul,hul⟩:∃s,q.word.length=s:=⟨_,rfl⟩;have HI:=yH (show ∀W,Calls Tryz.prog 206 #[.agg #[.int .i64 kd,.string s,.string s2,.slice up ul uc,.bool qq]] W fun e w'=>e= .returned (.bool (bareT q))∧Below W.heap.size W w' from fun W=>by rw[←hs,←hs2,←hkd,←hqq,←hul];exact HI.out W);rw[hs]at c1;rw[hs2]at c2;rw[hkd]at c0;rw[hqq]at c4;rw[hul]at c3;obtain⟨B,hBB⟩:∃B,bareT q=B:=⟨_,rfl⟩;rw[hBB]at HI
    have HT:=yH (show T ((plainT [q]).getD [])=(if B=true then s else⟨#[]⟩)∧(plainT [q]).isSome=B from by
      rw[←hBB,←hs];show T ((if bareT q=true then some q.text else none).getD [])=_∧(if bareT q=true then some q.text else none).isSome=_
      cases bareT q<;>exact⟨rfl,rfl⟩)
    rw[HT.out.1,HT.out.2];have d0:=fun x=>cell_below c0 (HB.out x);have d1:=fun x=>cell_below c1 (HB.out x);have d2:=fun x=>cell_below c2 (HB.out x);have d3:=fun x=>cell_below c3 (HB.out x);have d4:=fun x=>cell_below c4 (HB.out x);clear hv hs hs2 hkd hqq hul hBB;show Calls _ _ #[.agg #[.slice (some ⟨b,o,none⟩) 1 c]] _ _
    cases B with
    |true=>
      go_enter Tryz.func175,Tryz.ntmps175
      go_wp2_with (go_at_call 206;refine(HI.out _).mono ?_;rintro e w1 ⟨rfl,hb⟩;have hx:=(hb.cell (World.block_lt_of_cell? _ _ (word_cell w (.slice (some ⟨b,o,none⟩) 1 c) 45))).trans (word_cell w (.slice (some ⟨b,o,none⟩) 1 c) 45);have HB1:=yH ((HB.out _).trans (hb.mono (HB.out _).size));have hx1:=cell_below c1 HB1.out;clear hb)
      go_ret2
      exact⟨rfl,HB1.out⟩
    |false=>
      go_enter Tryz.func175,Tryz.ntmps175
      go_wp2_with (go_at_call 206;refine(HI.out _).mono ?_;rintro e w1 ⟨rfl,hb⟩;have HB1:=yH ((HB.out _).trans (hb.mono (HB.out _).size));clear hb)
      go_ret2
      exact⟨rfl,HB1.out⟩
  · have hp:plainT ps=none:=by
      match ps,h1 with
      | [],_=>rfl
      | [q],h=>exact absurd ⟨q,rfl⟩ h
      |_::_::_,_=>rfl
    obtain⟨p,c,rfl, -, -⟩:=hv.is
    have hl:¬ps.length=1:=fun e=>h1 (by
      match ps,e with
      | [q],_=>exact⟨q,rfl⟩)
    rw[hp];obtain⟨L,hL⟩:∃L,ps.length=L:=⟨_,rfl⟩;rw[hL]at hl ⊢
    have hne:((L:Int) !=1)=true:=by
      have:(L:Int)≠1:=by omega
      simpa using this
    clear hv h1 hp hL hl;go_enter Tryz.func175,Tryz.ntmps175;go_wp2_with fail
    go_ret2
    exact⟨rfl,HB.out _⟩
theorem hash_prefix (l:List UInt8):Lib.hasPrefix (T l).data.toList (⟨#[35]⟩:ByteArray).data.toList=hashT l:=by
  show Lib.hasPrefix l [35]=hashT l
  cases l with
  |nil=>rfl
  |cons c r=>
    show _=(c==35);unfold Lib.hasPrefix;simp only[List.isPrefixOf,Bool.and_true];exact BEq.comm
set_option maxRecDepth 100000 in
theorem bare_any (ps:List Pt) (v:Value) (w:World) (hv:PsAt w v ps) (hs:Small ps):
    Calls Tryz.prog 150 #[wordV v] w fun e w'=>e= .returned (.bool (bareW ps))∧Below w.heap.size w w':=by
  have HB:=yH (fun o=>below_one w o);have HW:=yH (fun W (hb:Below w.heap.size w W)=>word_any ps v W (hv.stays hb) hs);have HO:=yH (fun W (hb:Below w.heap.size w W)=>opening_any ps v W (hv.stays hb));have HP:=yH (fun W=>prefix_any (T (openT ps)) ⟨#[35]⟩ W);rw[hash_prefix]at HP;have HR:=yH (show bareW ps=(wordT ps&& !hashT (openT ps))from rfl);obtain⟨R,hR⟩:∃R,bareW ps=R:=⟨_,rfl⟩;rw[hR]at HR ⊢;obtain⟨A,hA⟩:∃A,wordT ps=A:=⟨_,rfl⟩;rw[hA]at HW HR;obtain⟨H,hH⟩:∃H,hashT (openT ps)=H:=⟨_,rfl⟩;rw[hH]at HP HR;obtain⟨s,hss⟩:∃s,T (openT ps)=s:=⟨_,rfl⟩;rw[hss]at HP HO;obtain⟨p,c,rfl, -, -⟩:=hv.is;have hwc:=yH (word_cell w (.slice p ps.length c) 45)
  generalize ps.length=L at HW HO hwc ⊢
  clear hR hA hH hss hs;unfold wordV at HW HO ⊢
  cases A with
  |true=>
    go_enter Tryz.func150,Tryz.ntmps150
    go_wp2_with (first
      |(go_at_call 37;refine(HW.out _ (HB.out _)).mono ?_;rintro e w1 ⟨rfl,hb⟩;have hx:=cell_below hwc.out hb;have HB1:=yH ((HB.out _).trans (hb.mono (HB.out _).size));clear hb)
      |(go_at_call 186;refine(HO.out _ HB1.out).mono ?_;rintro e w2 ⟨rfl,hb⟩;have HB2:=yH (HB1.out.trans (hb.mono HB1.out.size));clear hb)
      |(go_at_call 100;refine(HP.out _).mono ?_;rintro e w3 ⟨rfl,rfl⟩))
    go_ret;exact⟨ret_bool HR.out.symm,HB2.out⟩
  |false=>
    go_enter Tryz.func150,Tryz.ntmps150
    go_wp2_with (go_at_call 37;refine(HW.out _ (HB.out _)).mono ?_;rintro e w1 ⟨rfl,hb⟩;have HB1:=yH ((HB.out _).trans (hb.mono (HB.out _).size));clear hb)
    go_ret;exact⟨ret_bool HR.out.symm,HB1.out⟩
theorem open_small {ps:List Pt} (hs:Small ps):(T (openT ps)).size≤1048576:=by
  rw[T_size]
  cases ps with
  |nil=>exact Nat.zero_le _
  |cons q r=>
    show(if bareT q=true then q.text else []).length≤_
    split
    · exact(hs.get (by simp)).1
    · exact Nat.zero_le _
set_option maxRecDepth 100000 in
theorem gives_any (ps:List Pt) (v:Value) (w:World) (hv:PsAt w v ps) (hs:Small ps):
    Calls Tryz.prog 183 #[wordV v] w fun e w'=>e= .returned (.bool (givesT ps))∧Below w.heap.size w w':=by
  have HB:=yH (fun o=>below_one w o);have HO:=yH (fun W (hb:Below w.heap.size w W)=>opening_any ps v W (hv.stays hb));have HC:=yH (fun W=>cut_any (T (openT ps)) W (open_small hs));have HR:=yH (show givesT ps=(match aheadT (openT ps)with|some n=>nameT n|none=>false)from rfl);rw[show (T (openT ps)).data.toList=openT ps from rfl]at HC;obtain⟨R,hR⟩:∃R,givesT ps=R:=⟨_,rfl⟩;rw[hR]at HR ⊢;obtain⟨s,hss⟩:∃s,T (openT ps)=s:=⟨_,rfl⟩;rw[hss]at HC HO
  generalize aheadT (openT ps)=A at HC HR
  obtain⟨p,c,rfl, -, -⟩:=hv.is;have HN:=yH (fun (a:ByteArray) W=>name_any a W)
  generalize ps.length=L at HO ⊢
  clear hR hss hs;unfold wordV at HO ⊢
  cases A with
  |none=>
    have HRf:=yH (show R=false from HR.out);clear HR;go_enter Tryz.func183,Tryz.ntmps183
    go_wp2_with (first
      |(go_at_call 186;refine(HO.out _ (HB.out _)).mono ?_;rintro e w2 ⟨rfl,hb⟩;have HB2:=yH ((HB.out _).trans (hb.mono (HB.out _).size));clear hb)
      |(go_at_call 215;refine(HC.out _).mono ?_;rintro e w3 ⟨a,b,f,rfl,hf,hb⟩;have HB3:=yH (HB2.out.trans (hb.mono HB2.out.size));have hff:f=false:=(by cases f with|false=>rfl|true=>cases hf);subst hff;clear hb hf))
    go_ret;exact⟨ret_bool HRf.out.symm,HB3.out⟩
  |some n=>
    have HRf:=yH (show R=nameT n from HR.out);clear HR;go_enter Tryz.func183,Tryz.ntmps183
    go_wp2_with (first
      |(go_at_call 186;refine(HO.out _ (HB.out _)).mono ?_;rintro e w2 ⟨rfl,hb⟩;have HB2:=yH ((HB.out _).trans (hb.mono (HB.out _).size));clear hb)
      |(go_at_call 215;refine(HC.out _).mono ?_;rintro e w3 ⟨a,b,f,rfl,hf,hb⟩;have HB3:=yH (HB2.out.trans (hb.mono HB2.out.size));have hff:f=true:=(by cases f with|true=>rfl|false=>cases hf);subst hff;have HA:=yH (show n=a.data.toList from Option.some.inj hf);clear hb hf)
      |(go_at_call 148;refine(HN.out _ _).mono ?_;rintro e w4 ⟨rfl,hb⟩;have HB4:=yH (HB3.out.trans (hb.mono HB3.out.size));clear hb))
    go_ret;exact⟨ret_bool (by rw[HRf.out,HA.out];rfl),HB4.out⟩
def nodeV (n:Nd) (kv wv pv av rv:Value):Value:= .agg #[txt n.op,txt n.name,kv,wv,pv,av,rv]
theorem rank_any (op:List UInt8) (w:World):
    Calls Tryz.prog 157 #[.string (T op)] w fun e w'=>e= .returned (.int .i64 (rankT op))∧w=w':=by
  obtain⟨R,hR⟩:∃R,rankT op=R:=⟨_,rfl⟩;have HR:=yH (show R=(if op= [115,101,113]then 4 else if op= [97,110,100]then 3 else if op= [111,114]then 3 else if op= [110,111,116]then 2 else if op= [112,105,112,101]then 1 else 0)from hR.symm);rw[hR];obtain⟨o,ho⟩:∃o,T op=o:=⟨_,rfl⟩;have hl:o.toList=op:=(by rw[←ho,Lib.toList_data]);rw[ho];clear hR ho
  by_cases h0:op= [115,101,113]
  · have b0:(o.toList== [115,101,113])=true:=by rw[hl,h0];rfl
    have HV:=yH (show R=4 by rw[HR.out,if_pos h0]);rw[HV.out];clear HR HV hl h0;go_enter Tryz.func157,Tryz.ntmps157;go_wp2_with fail;go_ret;exact⟨rfl,rfl⟩
  · have b0:(o.toList== [115,101,113])=false:=by rw[hl];exact list_ne h0
    by_cases h1:op= [97,110,100]
    · have b1:(o.toList== [97,110,100])=true:=by rw[hl,h1];rfl
      have HV:=yH (show R=3 by rw[HR.out,if_neg h0,if_pos h1]);rw[HV.out];clear HR HV hl h0 h1;go_enter Tryz.func157,Tryz.ntmps157;go_wp2_with fail;go_ret;exact⟨rfl,rfl⟩
    · have b1:(o.toList== [97,110,100])=false:=by rw[hl];exact list_ne h1
      by_cases h2:op= [111,114]
      · have b2:(o.toList== [111,114])=true:=by rw[hl,h2];rfl
        have HV:=yH (show R=3 by rw[HR.out,if_neg h0,if_neg h1,if_pos h2]);rw[HV.out];clear HR HV hl h0 h1 h2;go_enter Tryz.func157,Tryz.ntmps157;go_wp2_with fail;go_ret;exact⟨rfl,rfl⟩
      · have b2:(o.toList== [111,114])=false:=by rw[hl];exact list_ne h2
        by_cases h3:op= [110,111,116]
        · have b3:(o.toList== [110,111,116])=true:=by rw[hl,h3];rfl
          have HV:=yH (show R=2 by rw[HR.out,if_neg h0,if_neg h1,if_neg h2,if_pos h3]);rw[HV.out];clear HR HV hl h0 h1 h2 h3;go_enter Tryz.func157,Tryz.ntmps157;go_wp2_with fail;go_ret;exact⟨rfl,rfl⟩
        · have b3:(o.toList== [110,111,116])=false:=by rw[hl];exact list_ne h3
          by_cases h4:op= [112,105,112,101]
          · have b4:(o.toList== [112,105,112,101])=true:=by rw[hl,h4];rfl
            have HV:=yH (show R=1 by rw[HR.out,if_neg h0,if_neg h1,if_neg h2,if_neg h3,if_pos h4]);rw[HV.out];clear HR HV hl h0 h1 h2 h3 h4;go_enter Tryz.func157,Tryz.ntmps157;go_wp2_with fail;go_ret;exact⟨rfl,rfl⟩
          · have b4:(o.toList== [112,105,112,101])=false:=by rw[hl];exact list_ne h4
            have HV:=yH (show R=0 by rw[HR.out,if_neg h0,if_neg h1,if_neg h2,if_neg h3,if_neg h4]);rw[HV.out];clear HR HV hl h0 h1 h2 h3 h4;go_enter Tryz.func157,Tryz.ntmps157;go_wp2_with fail;go_ret;exact⟨rfl,rfl⟩
theorem rank_q (s:ByteArray) (w:World):
    Calls Tryz.prog 157 #[.string s] w fun e w'=>e= .returned (.int .i64 (rankT s.data.toList))∧∃m,w'=w.drewN m:=by
  refine(rank_any s.data.toList w).mono ?_;rintro e w' ⟨rfl,rfl⟩;exact⟨rfl,0,rfl⟩
set_option maxHeartbeats 1000000 in
set_option maxRecDepth 100000 in
theorem ttakes_any (n k:Nd) (i:Nat) (a1 a2 a3 a4 a5 c1 c2 c3 c4:Value) (rp:Option Addr) (rc:Nat) (w:World):
    Calls Tryz.prog 118 #[nodeV n a1 a2 a3 a4 a5,.int .i64 (i:Int),nodeV k c1 c2 c3 c4 (.slice rp k.redirs.length rc)] w fun e w'=>e= .returned (.bool (takesT n i k))∧Below w.heap.size w w':=by
  have HB:=yH (fun o p=>below_two w o p);obtain⟨R,hR⟩:∃R,takesT n i k=R:=⟨_,rfl⟩;have HR:=yH (show R=(if n.op= [102,117,110]then (k.op== [103,114,111,117,112]||k.op== [115,117,98])&&k.redirs.isEmpty else if(n.op= [97,110,100]∨n.op= [111,114])∧i=0 then decide (rankT k.op≤rankT n.op)else rankT n.op==0||decide (rankT k.op<rankT n.op))from hR.symm);have hE:=empty_len k.redirs;obtain⟨E,hEE⟩:∃E,k.redirs.isEmpty=E:=⟨_,rfl⟩;rw[hEE]at hE HR;obtain⟨o,ho⟩:∃o,T n.op=o:=⟨_,rfl⟩;have hl:o.toList=n.op:=(by rw[←ho,Lib.toList_data]);obtain⟨q,hq⟩:∃o,T k.op=o:=⟨_,rfl⟩;have hlq:q.toList=k.op:=(by rw[←hq,Lib.toList_data]);obtain⟨x1,hx1⟩:∃o,T n.name=o:=⟨_,rfl⟩;obtain⟨x2,hx2⟩:∃o,T k.name=o:=⟨_,rfl⟩;obtain⟨L,hL⟩:∃L,k.redirs.length=L:=⟨_,rfl⟩;rw[hR];show Calls _ _ #[.agg #[.string (T n.op),.string (T n.name),a1,a2,a3,a4,a5],_,.agg #[.string (T k.op),.string (T k.name),c1,c2,c3,c4,.slice rp k.redirs.length rc]] _ _;obtain⟨rn,hrn⟩:∃rn,rankT n.op=rn:=⟨_,rfl⟩;obtain⟨rk,hrk⟩:∃rn,rankT k.op=rn:=⟨_,rfl⟩;rw[hrn,hrk]at HR;have hrn:rankT o.data.toList=rn:=(by rw[←ho];exact hrn);have hrk:rankT q.data.toList=rk:=(by rw[←hq];exact hrk);have HRN:=yH (show ∀W,Calls Tryz.prog 157 #[.string o] W fun e w'=>e= .returned (.int .i64 rn)∧∃m,w'=W.drewN m from fun W=>by rw[←hrn];exact rank_q o W);rw[ho,hq,hx1,hx2,hL];rw[hL]at hE;have HO:=yH (And.intro hrn hrk)
  by_cases h0:n.op= [102,117,110]
  · have b0:(o.toList== [102,117,110])=true:=by rw[hl,h0];rfl
    have HV:=yH (show R=((q.toList== [103,114,111,117,112]||q.toList== [115,117,98])&&E) by rw[HR.out,if_pos h0,hlq]);clear HR hl hlq hEE ho hq hx1 hx2 hL hrn hrk h0 hR;obtain⟨g,hg⟩:∃g,(q.toList== [103,114,111,117,112])=g:=⟨_,rfl⟩;obtain⟨s,hs⟩:∃g,(q.toList== [115,117,98])=g:=⟨_,rfl⟩;rw[hg,hs]at HV
    cases g<;>cases s<;>cases E
    all_goals
      go_enter Tryz.func118,Tryz.ntmps118;go_wp2_with fail;go_ret;exact⟨ret_bool HV.out.symm,HB.out _ _⟩
  · have b0:(o.toList== [102,117,110])=false:=by rw[hl];exact list_ne h0
    by_cases h1:(n.op= [97,110,100]∨n.op= [111,114])∧i=0
    · have HV:=yH (show R=decide (rk≤rn) by rw[HR.out,if_neg h0,if_pos h1])
      obtain⟨h2,rfl⟩:=h1
      rcases h2 with h2|h2
      · have b1:(o.toList== [97,110,100])=true:=by rw[hl,h2];rfl
        clear HR hl hlq hEE ho hq hx1 hx2 hL hR h2 hE h0 hrn hrk;go_enter Tryz.func118,Tryz.ntmps118;go_wp2_with fail
        go_quiet ((go_at_call 157;exact Calls.quiet_of (rank_q _ _)))
        go_wp2_with fail;go_ret;exact⟨ret_bool (by rw[HV.out,←HO.out.1,←HO.out.2]),(HB.out _ _).trans (below_drew _ _ _)⟩
      · have b1:(o.toList== [97,110,100])=false:=by rw[hl,h2];rfl
        have b2:(o.toList== [111,114])=true:=(by rw[hl,h2];rfl);clear HR hl hlq hEE ho hq hx1 hx2 hL hR h2 hE h0 hrn hrk;go_enter Tryz.func118,Tryz.ntmps118;go_wp2_with fail
        go_quiet ((go_at_call 157;exact Calls.quiet_of (rank_q _ _)))
        go_wp2_with fail;go_ret;exact⟨ret_bool (by rw[HV.out,←HO.out.1,←HO.out.2]),(HB.out _ _).trans (below_drew _ _ _)⟩
    · have HV:=yH (show R=(rn==0||decide (rk<rn)) by rw[HR.out,if_neg h0,if_neg h1])
      obtain⟨Z,hZ⟩:∃Z,(rankT o.data.toList==0)=Z:=⟨_,rfl⟩;have HZ:=yH (show(rn==0)=Z by rw[←hrn];exact hZ)
      have hco:(o.toList== [97,110,100])=true∧((i:Int)==0)=false∨(o.toList== [97,110,100])=false∧(o.toList== [111,114])=true∧((i:Int)==0)=false∨(o.toList== [97,110,100])=false∧(o.toList== [111,114])=false:=by
        rw[hl]
        by_cases k1:n.op= [97,110,100]
        · exact .inl ⟨by rw[k1];rfl,int_ne fun e=>h1 ⟨.inl k1,by omega⟩⟩
        · by_cases k2:n.op= [111,114]
          · exact .inr (.inl ⟨list_ne k1,by rw[k2];rfl,int_ne fun e=>h1 ⟨.inr k2,by omega⟩⟩)
          · exact .inr (.inr ⟨list_ne k1,list_ne k2⟩)
      clear HR hl hlq hEE ho hq hx1 hx2 hL hR hE h0 hrn hrk h1
      rcases hco with ⟨b1,bi⟩|⟨b1,b2,bi⟩|⟨b1,b2⟩
      all_goals
        cases Z
        · go_enter Tryz.func118,Tryz.ntmps118
          go_wp2_with fail
          go_quiet ((go_at_call 157;exact Calls.quiet_of (rank_q _ _)))
          go_wp2_with fail;go_ret;exact⟨ret_bool (by rw[HV.out,HZ.out,←HO.out.1,←HO.out.2];rfl),(HB.out _ _).trans (below_drew _ _ _)⟩
        · go_enter Tryz.func118,Tryz.ntmps118
          go_wp2_with fail
          go_quiet ((go_at_call 157;exact Calls.quiet_of (rank_q _ _)))
          go_wp2_with fail;go_ret;exact⟨ret_bool (by rw[HV.out,HZ.out];rfl),(HB.out _ _).trans (below_drew _ _ _)⟩
end Go.Proofs.YtcpmjkefbjbhpaaGreatDoor
