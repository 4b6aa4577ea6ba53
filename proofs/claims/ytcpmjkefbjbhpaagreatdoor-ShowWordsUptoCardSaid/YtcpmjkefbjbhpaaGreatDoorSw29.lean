/-
  Proved: contracts of functions, plain facts. Conditions: as each says.
-/
import Derived.Test.YtcpmjkefbjbhpaaGreatDoorSw27
import Derived.Deep.CutRange
import Derived.Test.YtcpmjkefbjbhpaaGreatDoorSw26
import Derived.Test.YtcpmjkefbjbhpaaGreatDoorSw28
import Derived.Test.YtcpmjkefbjbhpaaGreatDoorSw24
namespace Go.Proofs.YtcpmjkefbjbhpaaGreatDoor
open Go Go.RowKit GlyphMath LexMath TreeMath ParseMath
theorem first_eq:∀ {l:List UInt8} {k:Nat},(∀j,j<k→l[j]? ≠some 61)→l[k]? =some 61→aheadT l=some (l.take k)∧restT l=l.drop (k+1)∧k<l.length
  | [],_,_,h=>by simp at h
  |c::r,0,_,h=>by
    have hc:c=61:=(by simpa using h);subst hc;exact⟨by rw[aheadT,if_pos rfl];rfl,by rw[restT,if_pos rfl];rfl,by simp⟩
  |c::r,k+1,hno,h=>by
    have hc:c≠61:=fun e=>hno 0 (by omega) (by rw[e];rfl);obtain⟨h1,h2,h3⟩:=first_eq (l:=r) (k:=k) (fun j hj=>by have:=hno (j+1) (by omega);simpa using this) (by simpa using h);exact⟨by rw[aheadT,if_neg hc,h1];rfl,by rw[restT,if_neg hc,h2];rfl,by simpa using h3⟩
set_option maxHeartbeats 1000000 in
set_option maxRecDepth 100000 in
theorem qisassign_any (ps:List Pt) (v:Value) (w:World) (hv:PsAt w v ps) (hsm:Small ps) (hT:Tabs w):
    Calls Tryz.prog 92 #[wordV v] w fun e w'=> ∃n:Nat,e= .returned (.tuple #[.int .i64 (n:Int),.bool (givesT ps)])∧Below w.heap.size w w'∧(givesT ps=true→aheadT (openT ps)=some ((openT ps).take n)∧restT (openT ps)=(openT ps).drop (n+1)∧n<(openT ps).length):=by
  have HB:=yH (fun o=>below_one w o);have HT:=yH hT;clear hT;unfold wordV
  match ps,hv,hsm with
  | [],hv,_=>
    obtain⟨p,c,rfl, -, -⟩:=hv.is;clear hv;go_enter Tryz.func92,Tryz.ntmps92;go_wp2_with fail
    go_ret2
    exact⟨0,rfl,HB.out _,fun h=>absurd h (by decide)⟩
  |q::r,hv,hsm=>
    obtain⟨b,o,c,u,rfl, -,c0,c1,c2,c3,c4⟩:=first_cells hv;obtain⟨R,hR⟩:∃R,givesT (q::r)=R:=⟨_,rfl⟩;rw[hR]
    have HO:=yH (show R=true→openT (q::r)=q.text from fun h=>by
      rw[←hR,gives_open]at h;show(if(q.kind==1&& !q.q)=true then q.text else [])=q.text
      cases hb:(q.kind==1&& !q.q)with
      |true=>rfl
      |false=>
        rw[show openT (q::r)= []from by show(if(q.kind==1&& !q.q)=true then q.text else [])= [];rw[hb];rfl]at h
        exact absurd h (by decide))
    have HG:=yH (show R=if (q.kind==1&& !q.q)then givesB q.text []else false from by
      rw[←hR,gives_open];show(match aheadT (if(q.kind==1&& !q.q)=true then q.text else [])with|some n=>nameT n|none=>false)=_
      cases (q.kind==1&& !q.q)
      · rfl
      · unfold givesB
        simp only[↓reduceIte,List.nil_append]
        try rfl)
    have hsz:(T q.text).size≤1048576:=(hsm.get (List.mem_cons_self)).1;have HTX:=yH (show(T q.text).data.toList=q.text from rfl);obtain⟨tx,htx⟩:∃tx,q.text=tx:=⟨_,rfl⟩;rw[htx]at HG HTX c1 hsz HO;obtain⟨s,hs⟩:∃s,T tx=s:=⟨_,rfl⟩;rw[hs]at c1 HTX hsz;obtain⟨kd,hkd⟩:∃s,q.kind=s:=⟨_,rfl⟩;obtain⟨qq,hqq⟩:∃s,q.q=s:=⟨_,rfl⟩;rw[hkd]at c0 HG;rw[hqq]at c4 HG;have hL:((r.length+1:Nat):Int)≠0:=(by omega);obtain⟨L,hLL⟩:∃L,r.length+1=L:=⟨_,rfl⟩;rw[hLL]at hL ⊢;have hL1:=int_ne hL;have hL2:(0:Int)<(L:Int):=(by omega);have d0:=fun x=>cell_below c0 (HB.out x);have d1:=fun x=>cell_below c1 (HB.out x);have d4:=fun x=>cell_below c4 (HB.out x);have HSZ:=yH hsz;clear hv hs hkd hqq c2 c3 hR htx hL hLL hsm
    by_cases h:kd=1
    · subst h
      cases qq with
      |true=>
        have HF:=yH (show R=false from HG.out);rw[HF.out];clear HG;go_enter Tryz.func92,Tryz.ntmps92;go_wp2_with fail
        go_ret2
        exact⟨0,rfl,HB.out _,fun h=>absurd h (by decide)⟩
      |false=>
        have HG:=yH (show givesB tx []=R from HG.out.symm);go_enter Tryz.func92,Tryz.ntmps92;go_wp2_with fail
        go_loopw [5] (fun i wr=> ∃k:Nat,i= .int .i64 (k:Int)∧k≤s.size∧givesB (tx.drop k) (tx.take k)=R∧Below w.heap.size w wr∧∀j,j<k→tx[j]? ≠some 61) (fun i _=>s.size-(intOf i).toNat)
        case atStart=>exact⟨0,rfl,Nat.zero_le _,by rw[List.drop_zero,List.take_zero];exact HG.out,HB.out _,fun j hj=>absurd hj (Nat.not_lt_zero j)⟩
        case round=>
          obtain⟨k,rfl,hk,hr,hb,hno⟩:=hrel;have HBR:=yH hb;have HNO:=yH hno;clear hb hno
          by_cases hlt:k<s.size
          · have hj:(k:Int)<(s.size:Int):=by omega
            have hg:tx.drop k=s.get! k::tx.drop (k+1):=(by rw[←HTX.out];exact get_drop s k hlt);have hlen:tx.length=s.size:=(by rw[←HTX.out,←Lib.size_eq])
            have htk:tx.take (k+1)=tx.take k++ [s.get! k]:=by
              have h1:k<tx.length:=(by omega);rw[List.take_succ_eq_append_getElem h1]
              congr 2
              have h2:=List.drop_eq_getElem_cons h1;rw[hg]at h2;simp only[List.cons.injEq]at h2;exact h2.1.symm
            rw[hg,get_is s k hlt]at hr;rw[get_is s k hlt]at htk;have HKK:=yH hlt
            by_cases h61:s[k]'hlt=61
            · rw[h61,givesB_hit]at hr
              have hb:(((s[k]'hlt).toNat:Int)==61)=true:=by rw[h61];rfl
              have HN:=yH (show Calls Tryz.prog 46 #[.string (s.extract 0 k)] wr fun e w'=>e= .returned (.bool R)∧Below wr.heap.size wr w' from by
                have:=rname_any (s.extract 0 k) wr (by have:=HSZ.out;simp[ByteArray.size_extract];omega) (HT.out.below HBR.out);rw[take_T,HTX.out]at this ⊢
                rwa [show nameL (letters (T (tx.take k)))=R from hr]at this)
              have HAT:=yH (first_eq HNO.out (show tx[k]? =some 61 from by
                have:=congrArg List.head? hg;rw[List.head?_drop,List.head?_cons,get_is s k hlt,h61]at this
                exact this))
              clear hr hg hk h61 htk hlen
              go_wp2_with (go_at_call 46;refine HN.out.mono ?_;rintro e w2 ⟨rfl,hb⟩;have HB2:=yH (HBR.out.trans (hb.mono HBR.out.size));clear hb)
              go_ret2
              exact⟨k,rfl,HB2.out,fun h=>by rw[HO.out h];exact HAT.out⟩
            · rw[givesB_miss h61,←htk]at hr
              have hb:(((s[k]'hlt).toNat:Int)==61)=false:=int_ne fun e=>h61 (UInt8.toNat_inj.1 (by show _=61;omega));have HR:=yH hr
              have HNO2:=yH (show ∀j,j<k+1→tx[j]? ≠some 61 from fun j hj=>by
                rcases Nat.lt_or_ge j k with h1|h1
                · exact HNO.out j h1
                · obtain rfl:j=k:=by omega
                  have:=congrArg List.head? hg;rw[List.head?_drop,List.head?_cons,get_is s j hlt]at this;rw[this]
                  exact fun e=>h61 (Option.some.inj e))
              clear hr hg hk h61 htk hlen;go_wp2_with fail
              go_roundw
              case rel=>exact⟨k+1,by go_num,HKK.out,HR.out,HBR.out,HNO2.out⟩
              case measure=>have:=HKK.out;simp[intOf];omega
          · have hj:¬(k:Int)<(s.size:Int):=by omega
            have HF:=yH (show R=false from by
              rw[←hr,←HTX.out,drop_all s k hlt,givesB_nil])
            clear hr hlt hk;go_wp2_with fail
            go_ret2
            exact⟨0,by rw[HF.out];rfl,HBR.out,fun h=>by rw[HF.out]at h;cases h⟩
    · have h1:(kd !=1)=true:=by simpa using h
      have HF:=yH (show R=false from by rw[HG.out,int_ne h];rfl);rw[HF.out];clear h HG;go_enter Tryz.func92,Tryz.ntmps92;go_wp2_with fail
      go_ret2
      exact⟨0,rfl,HB.out _,fun h=>absurd h (by decide)⟩
theorem qret_assign {fn:Func} {p:Tmp} (hf:fn.results= #[.cell p 144]) {tmps:Array Value} {k:Nat} {a b:Value} {w:World} {t:TypeId} {fr:Nat×Nat} (h:w.heap[k]? =some (.cells #[a,b] t fr)) (h2:tmps.getD p undef= .pointer (some ⟨k,0,none⟩)):
    (results fn tmps).run Tryz.prog w= .ok (.agg #[a,b]) w:=results_cell_row hf tmps w k t #[a,b] fr _ h2 h Tryz.underlying144 rfl assign_info
def valT (rs:List UInt8) (r:List Pt):List Pt:=if rs= []∧r= []then [⟨1,[],[],[],true⟩]else if rs= []then r else⟨1,rs,[],[],false⟩::r
def QaEnd (w0 w w':World) (e:Ending) (nm:List UInt8) (v:List Pt):Prop:=Below w.heap.size w w'∧∃p n c,e= .returned (.agg #[.string (T nm),.slice p n c])∧NewAt w0 w' w.heap.size fun W=>PsAt W (.slice p n c) v
set_option maxHeartbeats 16000000 in
set_option maxRecDepth 10000 in
theorem qassign_more1 {w0 w:World} (hb:Below w0.heap.size w0 w) (q:Pt) (r:List Pt) (p:Option Addr) (k n:Nat) (hu:PsAt w0 (.slice p (q::r).length k) (q::r)) (hk:(q::r).length≤k) (hsm:Small (q::r)) (hfew:(q::r).length≤100000) (hn:n<q.text.length) (hr0:q.text.drop (n+1)≠ []) (hk1:k=1):
    Calls Tryz.prog 214 #[.agg #[.slice p (q::r).length k],.int .i64 (n:Int)] w fun e w'=>QaEnd w0 w w' e (q.text.take n) (valT (q.text.drop (n+1)) r):=by
  have hu1:=hu.stays hb;obtain⟨b,o,c,u,he,⟨up,uc,rfl⟩,a0,a1,a2,a3,a4⟩:=first_cells hu1;simp only[List.length_cons,Value.slice.injEq]at he;obtain⟨rfl, -,rfl⟩:=he;have HBS:=yH hb.size;have HPM:=hu.more;have HPC:=yH (show ∀(W:World),Below w0.heap.size w0 W→∀(a:Addr) (v:Value),w0.cell? a=some v→W.cell? a=some v from fun W hW a v h=>(hW.cell (World.block_lt_of_cell? w0 _ h)).trans h);have HMK:=yH (AsO.mk0 hb (.slice (some ⟨b,o,none⟩) (r.length+1) k) #[.int .i64 q.kind,.string (T q.text),.string (T q.op),.slice up q.word.length uc,.bool q.q]);have hq1:=(hsm.get (List.mem_cons_self ..)).1;simp only[List.length_cons]at hk hfew;have HFW:=yH hfew;show Calls _ _ #[.agg #[.slice (some ⟨b,o,none⟩) (r.length+1) k],.int .i64 (n:Int)] _ _;obtain⟨s,hs⟩:∃x,T q.text=x:=⟨_,rfl⟩;have hsz:s.size=q.text.length:=(by rw[←hs];rfl);obtain⟨m,hm⟩:∃m:Nat,m=n+1:=⟨_,rfl⟩
  have hwr:IntKind.i64.wrap ((n:Int)+1)=(m:Int):=by
    have e:(m:Int)=(n:Int)+1:=(by omega);rw[e];exact IntWalk.i64_in _ ⟨by omega,by omega⟩
  have x1:(0:Int)≤(n:Int):=(by omega);have x2:(n:Int)≤(s.size:Int):=(by omega);have x3:(0:Int)≤(m:Int):=(by omega);have x4:(m:Int)≤(s.size:Int):=(by omega);have HNA:=yH (show T (q.text.take n)=s.extract 0 n from by rw[←hs,take_T])
  have hrs:q.text.drop (n+1)=(s.extract m s.size).data.toList:=by
    rw[←hs,hm];simp only[ByteArray.data_extract,Array.toList_extract];rw[List.extract_eq_take_drop,List.take_of_length_le (by rw[List.length_drop,T_size];omega)]
  rw[hrs]at hr0 ⊢;obtain⟨vv,hvv⟩:∃v,valT (s.extract m s.size).data.toList r=v:=⟨_,rfl⟩;have HVV:=yH hvv;rw[hvv];clear hvv;obtain⟨nn,hnn⟩:∃v,q.text.take n=v:=⟨_,rfl⟩;rw[hnn]at HNA ⊢;clear hnn;have hrl:((s.extract m s.size).data.toList= [])↔(s.extract m s.size).toList.isEmpty=true:=(by rw[Lib.toList_data,List.isEmpty_iff]);obtain⟨kd,hkd⟩:∃x,q.kind=x:=⟨_,rfl⟩;obtain⟨s2,hs2⟩:∃x,T q.op=x:=⟨_,rfl⟩;obtain⟨wl,hwl⟩:∃x,q.word.length=x:=⟨_,rfl⟩;obtain⟨qq,hqq⟩:∃x,q.q=x:=⟨_,rfl⟩;obtain⟨N,hN⟩:∃N,r.length+1=N:=⟨_,rfl⟩;have HN:=yH hN;rw[hkd]at a0 HMK;rw[hs]at a1 HMK;rw[hs2]at a2 HMK;rw[hwl]at a3 HMK;rw[hqq]at a4 HMK;rw[hN]at HMK hk ⊢;have e0:=fun o1 o2=>cell_alloc (cell_alloc a0 o1) o2;have e1:=fun o1 o2=>cell_alloc (cell_alloc a1 o1) o2;have e2:=fun o1 o2=>cell_alloc (cell_alloc a2 o1) o2;have e3:=fun o1 o2=>cell_alloc (cell_alloc a3 o1) o2;have e4:=fun o1 o2=>cell_alloc (cell_alloc a4 o1) o2;have n0:(0:Int)<(N:Int):=(by omega);have n1:(1:Int)≤(N:Int):=(by omega);have n2:(N:Int)≤(k:Int):=(by omega);obtain⟨dss,dl,dp,dc,dn⟩:=HPM;have HDS:=yH (And.intro dl (And.intro dp (And.intro dc dn)));clear hu hu1 hb hsm hfew hkd hs2 hwl hqq a0 a1 a2 a3 a4 dl dp dc dn hq1 hm;have nl:¬(1+(N-1):Int)=0:=(by omega);subst hk1;obtain rfl:N=1:=(by omega);have q4:(1-1==0)=true:=rfl;have HDSC:=yH (show ∀(W:World),Below w0.heap.size w0 W→∀(j:Nat) (u:Value),dss.flatten[j]? =some u→W.cell? ((⟨b,o,none⟩:Addr).add j)=some u from fun W hW j u hj=>by have:=(List.getElem?_eq_some_iff.1 hj).1;rw[flat_len HDS.out.2.2.1,HDS.out.1]at this;have:=HN.out;omega)
  have hne:(s.extract m s.size).toList.isEmpty=false:=by
    cases h:(s.extract m s.size).toList.isEmpty with
    |false=>rfl
    |true=>exact absurd (hrl.2 h) hr0
  have HR0:=yH hr0;clear hr0 hrl hrs hs hsz hn;go_enter Tryz.func214,Tryz.ntmps214
  go_upto_region 5 with fail
  obtain⟨V,hV⟩:∃V,V=(((w.alloc (.cells #[.slice (some ⟨b,o,none⟩) 1 1] 45)).alloc (.cells #[.string ⟨#[]⟩,.slice none 0 0] 144)).alloc (.cells #[.int .i64 kd,.string s,.string s2,.slice up wl uc,.bool qq] 55)):=⟨_,rfl⟩;rw[←hV]at HMK ⊢;have g0:V.cell? ⟨w.heap.size,0,none⟩=some (.slice (some ⟨b,o,none⟩) 1 1):=(by rw[cell_plain HMK.out.word];rfl);clear hV
  go_wp2_with (first
    |(refine wpList_one elPart (by rfl) (.tmp 21) (by rfl) _ (pcells ⟨1,(s.extract m s.size).data.toList,[],[],false⟩ (.slice none 0 0)) rfl (part_cel (W:=w0) (q:=⟨1,(s.extract m s.size).data.toList,[],[],false⟩) (PsAt.nil w0 0)) (by rfl) ?_)
    |(at_builtin;refine wpList_push elPart (p:=none) (c:=0) (css:= []) (l:=([]:List Pt)) (F:=fun _=>False) (by rfl) (.tmp 19) (.tmp 22) (by rfl) (RowG.nil w0 V 55 5 PartP (w.heap.size+3)) (part_cel (W:=w0) (q:=⟨1,(s.extract m s.size).data.toList,[],[],false⟩) (PsAt.nil w0 0)) (NewAt.of0 (w0:=w0) (w:=V) (B:=V.heap.size) (P:=fun W=>PartP W (pcells ⟨1,(s.extract m s.size).data.toList,[],[],false⟩ (.slice none 0 0)) ⟨1,(s.extract m s.size).data.toList,[],[],false⟩) fun W _=>⟨_,rfl,PsAt.nil W 0⟩) (gS.1 HMK.out.part).1 (fun k hk=>by simp[Value.ownBlock]at hk) (by simp) (by rfl) (by rfl) (gS.1 HMK.out.part).1 ?_;intro p3 c3 F3 w3 hr3 hF3 hat3 hk3;have HR3:=yH (RowG.nofar hr3 (fun k hk=>by rcases hF3 k hk with h|h;exact h;omega));have HA3:=yH (HMK.out.turn HBS.out hk3 (fun k hk=>by simp[Value.ownBlock]at hk));have g3:w3.cell? ⟨w.heap.size,0,none⟩=some (.slice (some ⟨b,o,none⟩) 1 1):=(by rw[cell_plain HA3.out.word];rfl);clear hr3 hF3 hat3 hk3)
    |(at_builtin;refine wpList_adds (by rfl) (.tmp 24) (.tmp 27) (by rfl) (ad:=⟨b,o,none⟩) (m:=0) (n:=1) (qs:=r) (dss:=dss) HR3.out (by rfl) HDS.out.1 HDS.out.2.1 HDS.out.2.2.1 (fun j u hj=>HDSC.out _ HA3.out.base j u hj) (by rfl) (by rfl) (by have:=HN.out;omega) (by have:=HFW.out;have:=HN.out;omega) (gS.1 HA3.out.part).1 ?_;intro p4 c4 w4 hp4 hk4 _;have HP4:=yH hp4;have HA4:=yH (HA3.out.turn HBS.out hk4 (fun k hk=>(World.ownsRow.lt HR3.out.own k hk).1));have h1:w4.cell? ⟨w.heap.size+1+1,1,none⟩=some (.string s):=cell_plain HA4.out.part 1;clear hp4 hk4)
    |(refine wpList_store_row (by rfl) 144 (.tmp 4) (.tmp 40) (by rfl) (w.heap.size+1) #[.string (s.extract 0 n),(.slice p4 (1+0) c4)] (by rfl) (by rfl) 144 #[.string ⟨#[]⟩,.slice none 0 0] HA4.out.res assign_info rfl (by simp[Value.oneCell']) ?_))
  (try simp only[Exit.inBlock,Exit.then])
  refine bodyPost_ret (qret_assign rfl (setRow_heap w4 (w.heap.size+1) _ #[.string (s.extract 0 n),(.slice p4 (1+0) c4)] 144 (0,0) HA4.out.res) rfl) rfl ?_;have hkz:=kept_row0 w4 (w.heap.size+1) #[.string (s.extract 0 n),(.slice p4 (1+0) c4)];refine⟨below3 HA4.out.below hkz (fun i hi=>by omega),?_⟩;rw[HNA.out,←HVV.out];unfold valT;rw[if_neg (fun h=>HR0.out h.1),if_neg HR0.out];exact⟨_,_,_,rfl,((PaR.ps (HP4.out) (by have:=HFW.out;have:=HN.out;simp[maxLen];try omega)).kept hkz (fun i h1 h2=>by omega)).base (by omega)⟩
set_option maxHeartbeats 16000000 in
set_option maxRecDepth 10000 in
theorem qassign_more2 {w0 w:World} (hb:Below w0.heap.size w0 w) (q:Pt) (r:List Pt) (p:Option Addr) (k n:Nat) (hu:PsAt w0 (.slice p (q::r).length k) (q::r)) (hk:(q::r).length≤k) (hsm:Small (q::r)) (hfew:(q::r).length≤100000) (hn:n<q.text.length) (hr0:q.text.drop (n+1)≠ []) (hk1:¬k=1):
    Calls Tryz.prog 214 #[.agg #[.slice p (q::r).length k],.int .i64 (n:Int)] w fun e w'=>QaEnd w0 w w' e (q.text.take n) (valT (q.text.drop (n+1)) r):=by
  have hu1:=hu.stays hb;obtain⟨b,o,c,u,he,⟨up,uc,rfl⟩,a0,a1,a2,a3,a4⟩:=first_cells hu1;simp only[List.length_cons,Value.slice.injEq]at he;obtain⟨rfl, -,rfl⟩:=he;have HBS:=yH hb.size;have HPM:=hu.more;have HPC:=yH (show ∀(W:World),Below w0.heap.size w0 W→∀(a:Addr) (v:Value),w0.cell? a=some v→W.cell? a=some v from fun W hW a v h=>(hW.cell (World.block_lt_of_cell? w0 _ h)).trans h);have HMK:=yH (AsO.mk0 hb (.slice (some ⟨b,o,none⟩) (r.length+1) k) #[.int .i64 q.kind,.string (T q.text),.string (T q.op),.slice up q.word.length uc,.bool q.q]);have hq1:=(hsm.get (List.mem_cons_self ..)).1;simp only[List.length_cons]at hk hfew;have HFW:=yH hfew;show Calls _ _ #[.agg #[.slice (some ⟨b,o,none⟩) (r.length+1) k],.int .i64 (n:Int)] _ _;obtain⟨s,hs⟩:∃x,T q.text=x:=⟨_,rfl⟩;have hsz:s.size=q.text.length:=(by rw[←hs];rfl);obtain⟨m,hm⟩:∃m:Nat,m=n+1:=⟨_,rfl⟩
  have hwr:IntKind.i64.wrap ((n:Int)+1)=(m:Int):=by
    have e:(m:Int)=(n:Int)+1:=(by omega);rw[e];exact IntWalk.i64_in _ ⟨by omega,by omega⟩
  have x1:(0:Int)≤(n:Int):=(by omega);have x2:(n:Int)≤(s.size:Int):=(by omega);have x3:(0:Int)≤(m:Int):=(by omega);have x4:(m:Int)≤(s.size:Int):=(by omega);have HNA:=yH (show T (q.text.take n)=s.extract 0 n from by rw[←hs,take_T])
  have hrs:q.text.drop (n+1)=(s.extract m s.size).data.toList:=by
    rw[←hs,hm];simp only[ByteArray.data_extract,Array.toList_extract];rw[List.extract_eq_take_drop,List.take_of_length_le (by rw[List.length_drop,T_size];omega)]
  rw[hrs]at hr0 ⊢;obtain⟨vv,hvv⟩:∃v,valT (s.extract m s.size).data.toList r=v:=⟨_,rfl⟩;have HVV:=yH hvv;rw[hvv];clear hvv;obtain⟨nn,hnn⟩:∃v,q.text.take n=v:=⟨_,rfl⟩;rw[hnn]at HNA ⊢;clear hnn;have hrl:((s.extract m s.size).data.toList= [])↔(s.extract m s.size).toList.isEmpty=true:=(by rw[Lib.toList_data,List.isEmpty_iff]);obtain⟨kd,hkd⟩:∃x,q.kind=x:=⟨_,rfl⟩;obtain⟨s2,hs2⟩:∃x,T q.op=x:=⟨_,rfl⟩;obtain⟨wl,hwl⟩:∃x,q.word.length=x:=⟨_,rfl⟩;obtain⟨qq,hqq⟩:∃x,q.q=x:=⟨_,rfl⟩;obtain⟨N,hN⟩:∃N,r.length+1=N:=⟨_,rfl⟩;have HN:=yH hN;rw[hkd]at a0 HMK;rw[hs]at a1 HMK;rw[hs2]at a2 HMK;rw[hwl]at a3 HMK;rw[hqq]at a4 HMK;rw[hN]at HMK hk ⊢;have e0:=fun o1 o2=>cell_alloc (cell_alloc a0 o1) o2;have e1:=fun o1 o2=>cell_alloc (cell_alloc a1 o1) o2;have e2:=fun o1 o2=>cell_alloc (cell_alloc a2 o1) o2;have e3:=fun o1 o2=>cell_alloc (cell_alloc a3 o1) o2;have e4:=fun o1 o2=>cell_alloc (cell_alloc a4 o1) o2;have n0:(0:Int)<(N:Int):=(by omega);have n1:(1:Int)≤(N:Int):=(by omega);have n2:(N:Int)≤(k:Int):=(by omega);obtain⟨dss,dl,dp,dc,dn⟩:=HPM;have HDS:=yH (And.intro dl (And.intro dp (And.intro dc dn)));clear hu hu1 hb hsm hfew hkd hs2 hwl hqq a0 a1 a2 a3 a4 dl dp dc dn hq1 hm;have nl:¬(1+(N-1):Int)=0:=(by omega)
  have q4:(k-1==0)=false:=by
    have:¬k-1=0:=by omega
    simpa using this
  have q5:¬k=1:=hk1;have q6:(1:Int)<(k:Int):=(by omega);have HDSC:=yH (show ∀(W:World),Below w0.heap.size w0 W→∀(j:Nat) (u:Value),dss.flatten[j]? =some u→W.cell? ((⟨b,o+5,none⟩:Addr).add j)=some u from fun W hW j u hj=>by have h:=HPC.out W hW _ _ (HDS.out.2.2.2 j u hj);unfold Addr.add;split<;>simp_all)
  have hne:(s.extract m s.size).toList.isEmpty=false:=by
    cases h:(s.extract m s.size).toList.isEmpty with
    |false=>rfl
    |true=>exact absurd (hrl.2 h) hr0
  have HR0:=yH hr0;clear hr0 hrl hrs hs hsz hn;go_enter Tryz.func214,Tryz.ntmps214
  go_upto_region 5 with fail
  obtain⟨V,hV⟩:∃V,V=(((w.alloc (.cells #[.slice (some ⟨b,o,none⟩) N k] 45)).alloc (.cells #[.string ⟨#[]⟩,.slice none 0 0] 144)).alloc (.cells #[.int .i64 kd,.string s,.string s2,.slice up wl uc,.bool qq] 55)):=⟨_,rfl⟩;rw[←hV]at HMK ⊢;have g0:V.cell? ⟨w.heap.size,0,none⟩=some (.slice (some ⟨b,o,none⟩) N k):=(by rw[cell_plain HMK.out.word];rfl);clear hV
  go_wp2_with (first
    |(refine wpList_one elPart (by rfl) (.tmp 21) (by rfl) _ (pcells ⟨1,(s.extract m s.size).data.toList,[],[],false⟩ (.slice none 0 0)) rfl (part_cel (W:=w0) (q:=⟨1,(s.extract m s.size).data.toList,[],[],false⟩) (PsAt.nil w0 0)) (by rfl) ?_)
    |(at_builtin;refine wpList_push elPart (p:=none) (c:=0) (css:= []) (l:=([]:List Pt)) (F:=fun _=>False) (by rfl) (.tmp 19) (.tmp 22) (by rfl) (RowG.nil w0 V 55 5 PartP (w.heap.size+3)) (part_cel (W:=w0) (q:=⟨1,(s.extract m s.size).data.toList,[],[],false⟩) (PsAt.nil w0 0)) (NewAt.of0 (w0:=w0) (w:=V) (B:=V.heap.size) (P:=fun W=>PartP W (pcells ⟨1,(s.extract m s.size).data.toList,[],[],false⟩ (.slice none 0 0)) ⟨1,(s.extract m s.size).data.toList,[],[],false⟩) fun W _=>⟨_,rfl,PsAt.nil W 0⟩) (gS.1 HMK.out.part).1 (fun k hk=>by simp[Value.ownBlock]at hk) (by simp) (by rfl) (by rfl) (gS.1 HMK.out.part).1 ?_;intro p3 c3 F3 w3 hr3 hF3 hat3 hk3;have HR3:=yH (RowG.nofar hr3 (fun k hk=>by rcases hF3 k hk with h|h;exact h;omega));have HA3:=yH (HMK.out.turn HBS.out hk3 (fun k hk=>by simp[Value.ownBlock]at hk));have g3:w3.cell? ⟨w.heap.size,0,none⟩=some (.slice (some ⟨b,o,none⟩) N k):=(by rw[cell_plain HA3.out.word];rfl);clear hr3 hF3 hat3 hk3)
    |(at_builtin;refine wpList_adds (by rfl) (.tmp 24) (.tmp 27) (by rfl) (ad:=⟨b,o+5,none⟩) (m:=N-1) (n:=1) (qs:=r) (dss:=dss) HR3.out (by rfl) HDS.out.1 HDS.out.2.1 HDS.out.2.2.1 (fun j u hj=>HDSC.out _ HA3.out.base j u hj) (by rfl) (by rfl) (by have:=HN.out;omega) (by have:=HFW.out;have:=HN.out;omega) (gS.1 HA3.out.part).1 ?_;intro p4 c4 w4 hp4 hk4 _;have HP4:=yH hp4;have HA4:=yH (HA3.out.turn HBS.out hk4 (fun k hk=>(World.ownsRow.lt HR3.out.own k hk).1));have h1:w4.cell? ⟨w.heap.size+1+1,1,none⟩=some (.string s):=cell_plain HA4.out.part 1;clear hp4 hk4)
    |(refine wpList_store_row (by rfl) 144 (.tmp 4) (.tmp 40) (by rfl) (w.heap.size+1) #[.string (s.extract 0 n),(.slice p4 (1+(N-1)) c4)] (by rfl) (by rfl) 144 #[.string ⟨#[]⟩,.slice none 0 0] HA4.out.res assign_info rfl (by simp[Value.oneCell']) ?_))
  (try simp only[Exit.inBlock,Exit.then])
  refine bodyPost_ret (qret_assign rfl (setRow_heap w4 (w.heap.size+1) _ #[.string (s.extract 0 n),(.slice p4 (1+(N-1)) c4)] 144 (0,0) HA4.out.res) rfl) rfl ?_;have hkz:=kept_row0 w4 (w.heap.size+1) #[.string (s.extract 0 n),(.slice p4 (1+(N-1)) c4)];refine⟨below3 HA4.out.below hkz (fun i hi=>by omega),?_⟩;rw[HNA.out,←HVV.out];unfold valT;rw[if_neg (fun h=>HR0.out h.1),if_neg HR0.out];exact⟨_,_,_,rfl,((PaR.ps (HP4.out) (by have:=HFW.out;have:=HN.out;simp[maxLen];try omega)).kept hkz (fun i h1 h2=>by omega)).base (by omega)⟩
set_option maxHeartbeats 16000000 in
set_option maxRecDepth 10000 in
theorem qassign_none1 {w0 w:World} (hb:Below w0.heap.size w0 w) (q:Pt) (r:List Pt) (p:Option Addr) (k n:Nat) (hu:PsAt w0 (.slice p (q::r).length k) (q::r)) (hk:(q::r).length≤k) (hsm:Small (q::r)) (hfew:(q::r).length≤100000) (hn:n<q.text.length) (hr0:q.text.drop (n+1)= []) (hr1:r= []) (hk1:k=1):
    Calls Tryz.prog 214 #[.agg #[.slice p (q::r).length k],.int .i64 (n:Int)] w fun e w'=>QaEnd w0 w w' e (q.text.take n) (valT (q.text.drop (n+1)) r):=by
  have hu1:=hu.stays hb;obtain⟨b,o,c,u,he,⟨up,uc,rfl⟩,a0,a1,a2,a3,a4⟩:=first_cells hu1;simp only[List.length_cons,Value.slice.injEq]at he;obtain⟨rfl, -,rfl⟩:=he;have HBS:=yH hb.size;have HPM:=hu.more;have HPC:=yH (show ∀(W:World),Below w0.heap.size w0 W→∀(a:Addr) (v:Value),w0.cell? a=some v→W.cell? a=some v from fun W hW a v h=>(hW.cell (World.block_lt_of_cell? w0 _ h)).trans h);have HMK:=yH (AsO.mk0 hb (.slice (some ⟨b,o,none⟩) (r.length+1) k) #[.int .i64 q.kind,.string (T q.text),.string (T q.op),.slice up q.word.length uc,.bool q.q]);have hq1:=(hsm.get (List.mem_cons_self ..)).1;simp only[List.length_cons]at hk hfew;have HFW:=yH hfew;show Calls _ _ #[.agg #[.slice (some ⟨b,o,none⟩) (r.length+1) k],.int .i64 (n:Int)] _ _;obtain⟨s,hs⟩:∃x,T q.text=x:=⟨_,rfl⟩;have hsz:s.size=q.text.length:=(by rw[←hs];rfl);obtain⟨m,hm⟩:∃m:Nat,m=n+1:=⟨_,rfl⟩
  have hwr:IntKind.i64.wrap ((n:Int)+1)=(m:Int):=by
    have e:(m:Int)=(n:Int)+1:=(by omega);rw[e];exact IntWalk.i64_in _ ⟨by omega,by omega⟩
  have x1:(0:Int)≤(n:Int):=(by omega);have x2:(n:Int)≤(s.size:Int):=(by omega);have x3:(0:Int)≤(m:Int):=(by omega);have x4:(m:Int)≤(s.size:Int):=(by omega);have HNA:=yH (show T (q.text.take n)=s.extract 0 n from by rw[←hs,take_T])
  have hrs:q.text.drop (n+1)=(s.extract m s.size).data.toList:=by
    rw[←hs,hm];simp only[ByteArray.data_extract,Array.toList_extract];rw[List.extract_eq_take_drop,List.take_of_length_le (by rw[List.length_drop,T_size];omega)]
  rw[hrs]at hr0 ⊢;obtain⟨vv,hvv⟩:∃v,valT (s.extract m s.size).data.toList r=v:=⟨_,rfl⟩;have HVV:=yH hvv;rw[hvv];clear hvv;obtain⟨nn,hnn⟩:∃v,q.text.take n=v:=⟨_,rfl⟩;rw[hnn]at HNA ⊢;clear hnn;have hrl:((s.extract m s.size).data.toList= [])↔(s.extract m s.size).toList.isEmpty=true:=(by rw[Lib.toList_data,List.isEmpty_iff]);obtain⟨kd,hkd⟩:∃x,q.kind=x:=⟨_,rfl⟩;obtain⟨s2,hs2⟩:∃x,T q.op=x:=⟨_,rfl⟩;obtain⟨wl,hwl⟩:∃x,q.word.length=x:=⟨_,rfl⟩;obtain⟨qq,hqq⟩:∃x,q.q=x:=⟨_,rfl⟩;obtain⟨N,hN⟩:∃N,r.length+1=N:=⟨_,rfl⟩;have HN:=yH hN;rw[hkd]at a0 HMK;rw[hs]at a1 HMK;rw[hs2]at a2 HMK;rw[hwl]at a3 HMK;rw[hqq]at a4 HMK;rw[hN]at HMK hk ⊢;have e0:=fun o1 o2=>cell_alloc (cell_alloc a0 o1) o2;have e1:=fun o1 o2=>cell_alloc (cell_alloc a1 o1) o2;have e2:=fun o1 o2=>cell_alloc (cell_alloc a2 o1) o2;have e3:=fun o1 o2=>cell_alloc (cell_alloc a3 o1) o2;have e4:=fun o1 o2=>cell_alloc (cell_alloc a4 o1) o2;have n0:(0:Int)<(N:Int):=(by omega);have n1:(1:Int)≤(N:Int):=(by omega);have n2:(N:Int)≤(k:Int):=(by omega);obtain⟨dss,dl,dp,dc,dn⟩:=HPM;have HDS:=yH (And.intro dl (And.intro dp (And.intro dc dn)));clear hu hu1 hb hsm hfew hkd hs2 hwl hqq a0 a1 a2 a3 a4 dl dp dc dn hq1 hm;obtain rfl:N=1:=(by rw[hr1]at hN;simpa using hN.symm);have HR1:=yH hr1;clear hr1;subst hk1;have q4:(1-1==0)=true:=rfl;have HDSC:=yH (show ∀(W:World),Below w0.heap.size w0 W→∀(j:Nat) (u:Value),dss.flatten[j]? =some u→W.cell? ((⟨b,o,none⟩:Addr).add j)=some u from fun W hW j u hj=>by have:=(List.getElem?_eq_some_iff.1 hj).1;rw[flat_len HDS.out.2.2.1,HDS.out.1]at this;have:=HN.out;omega);have hem:(s.extract m s.size).toList.isEmpty=true:=hrl.1 hr0;have HR0:=yH hr0;clear hr0 hrl hrs hs hsz hn;go_enter Tryz.func214,Tryz.ntmps214
  go_upto_region 6 with fail
  obtain⟨V,hV⟩:∃V,V=(((w.alloc (.cells #[.slice (some ⟨b,o,none⟩) 1 1] 45)).alloc (.cells #[.string ⟨#[]⟩,.slice none 0 0] 144)).alloc (.cells #[.int .i64 kd,.string s,.string s2,.slice up wl uc,.bool qq] 55)):=⟨_,rfl⟩;rw[←hV]at HMK ⊢;have g0:V.cell? ⟨w.heap.size,0,none⟩=some (.slice (some ⟨b,o,none⟩) 1 1):=(by rw[cell_plain HMK.out.word];rfl);clear hV
  go_wp2_with (first
    |(at_builtin;refine wpList_adds (by rfl) (.tmp 24) (.tmp 27) (by rfl) (ad:=⟨b,o,none⟩) (m:=0) (n:=0) (qs:=r) (dss:=dss) (p:=none) (c:=0) (css:= []) (ps:=([]:List Pt)) (RowG.nil w0 V 55 5 PartP (w.heap.size+3)) (by rfl) HDS.out.1 HDS.out.2.1 HDS.out.2.2.1 (fun j u hj=>HDSC.out _ HMK.out.base j u hj) (by rfl) (by rfl) (by have:=HN.out;omega) (by have:=HFW.out;have:=HN.out;omega) (gS.1 HMK.out.part).1 ?_;intro p4 c4 w4 hp4 hk4 hnil;obtain⟨rfl,rfl⟩:=hnil rfl rfl rfl rfl;have HA4:=yH (HMK.out.turn HBS.out hk4 (fun k hk=>by simp[Value.ownBlock]at hk));clear hp4 hk4 hnil)
    |(refine wpList_one elPart (by rfl) (.tmp 32) (by rfl) _ (pcells ⟨1,[],[],[],true⟩ (.slice none 0 0)) rfl (part_cel (W:=w0) (q:=⟨1,[],[],[],true⟩) (PsAt.nil w0 0)) (by rfl) ?_;have hpq:=(⟨_,(RowG.one (w0:=w0) (w:=w4) (e:=55) (sz:=5) (P:=PartP) (B:=w.heap.size+3) (C:=w4.heap.size) (x:=(⟨1,[],[],[],true⟩:Pt)) (part_cel (W:=w0) (q:=⟨1,[],[],[],true⟩) (PsAt.nil w0 0)) (NewAt.of0 fun W _=>⟨_,rfl,PsAt.nil W 0⟩) (gS.1 HA4.out.part).1 (gS.1 HA4.out.part).1).choose_spec.1.nofar (fun k hk=>by have:=(RowG.one (w0:=w0) (w:=w4) (e:=55) (sz:=5) (P:=PartP) (B:=w.heap.size+3) (C:=w4.heap.size) (x:=(⟨1,[],[],[],true⟩:Pt)) (part_cel (W:=w0) (q:=⟨1,[],[],[],true⟩) (PsAt.nil w0 0)) (NewAt.of0 fun W _=>⟨_,rfl,PsAt.nil W 0⟩) (gS.1 HA4.out.part).1 (gS.1 HA4.out.part).1).choose_spec.2 k hk;omega)⟩:PaR w0 (w4.alloc (.cells (pcells ⟨1,[],[],[],true⟩ (.slice none 0 0)).toArray 55)) (w.heap.size+3) (.slice (some ⟨w4.heap.size,0,none⟩) 1 1) [⟨1,[],[],[],true⟩]);have HPQ:=yH hpq;have HA5:=yH (HA4.out.new (below_new w4 (.cells (pcells ⟨1,[],[],[],true⟩ (.slice none 0 0)).toArray 55)));have h1:(w4.alloc (.cells (pcells ⟨1,[],[],[],true⟩ (.slice none 0 0)).toArray 55)).cell? ⟨w.heap.size+1+1,1,none⟩=some (.string s):=cell_plain HA5.out.part 1;clear hpq)
    |(refine wpList_store_row (by rfl) 144 (.tmp 4) (.tmp 40) (by rfl) (w.heap.size+1) #[.string (s.extract 0 n),(.slice (some ⟨w4.heap.size,0,none⟩) 1 1)] (by rfl) (by rfl) 144 #[.string ⟨#[]⟩,.slice none 0 0] HA5.out.res assign_info rfl (by simp[Value.oneCell']) ?_))
  (try simp only[Exit.inBlock,Exit.then])
  refine bodyPost_ret (qret_assign rfl (setRow_heap (w4.alloc (.cells (pcells ⟨1,[],[],[],true⟩ (.slice none 0 0)).toArray 55)) (w.heap.size+1) _ #[.string (s.extract 0 n),(.slice (some ⟨w4.heap.size,0,none⟩) 1 1)] 144 (0,0) HA5.out.res) rfl) rfl ?_;have hkz:=kept_row0 (w4.alloc (.cells (pcells ⟨1,[],[],[],true⟩ (.slice none 0 0)).toArray 55)) (w.heap.size+1) #[.string (s.extract 0 n),(.slice (some ⟨w4.heap.size,0,none⟩) 1 1)];refine⟨below3 HA5.out.below hkz (fun i hi=>by omega),?_⟩;rw[HNA.out,←HVV.out];unfold valT;rw[if_pos ⟨HR0.out,HR1.out⟩];exact⟨_,_,_,rfl,((PaR.ps (HPQ.out) (by have:=HFW.out;have:=HN.out;simp[maxLen];try omega)).kept hkz (fun i h1 h2=>by omega)).base (by omega)⟩
set_option maxHeartbeats 16000000 in
set_option maxRecDepth 10000 in
theorem qassign_none2 {w0 w:World} (hb:Below w0.heap.size w0 w) (q:Pt) (r:List Pt) (p:Option Addr) (k n:Nat) (hu:PsAt w0 (.slice p (q::r).length k) (q::r)) (hk:(q::r).length≤k) (hsm:Small (q::r)) (hfew:(q::r).length≤100000) (hn:n<q.text.length) (hr0:q.text.drop (n+1)= []) (hr1:r= []) (hk1:¬k=1):
    Calls Tryz.prog 214 #[.agg #[.slice p (q::r).length k],.int .i64 (n:Int)] w fun e w'=>QaEnd w0 w w' e (q.text.take n) (valT (q.text.drop (n+1)) r):=by
  have hu1:=hu.stays hb;obtain⟨b,o,c,u,he,⟨up,uc,rfl⟩,a0,a1,a2,a3,a4⟩:=first_cells hu1;simp only[List.length_cons,Value.slice.injEq]at he;obtain⟨rfl, -,rfl⟩:=he;have HBS:=yH hb.size;have HPM:=hu.more;have HPC:=yH (show ∀(W:World),Below w0.heap.size w0 W→∀(a:Addr) (v:Value),w0.cell? a=some v→W.cell? a=some v from fun W hW a v h=>(hW.cell (World.block_lt_of_cell? w0 _ h)).trans h);have HMK:=yH (AsO.mk0 hb (.slice (some ⟨b,o,none⟩) (r.length+1) k) #[.int .i64 q.kind,.string (T q.text),.string (T q.op),.slice up q.word.length uc,.bool q.q]);have hq1:=(hsm.get (List.mem_cons_self ..)).1;simp only[List.length_cons]at hk hfew;have HFW:=yH hfew;show Calls _ _ #[.agg #[.slice (some ⟨b,o,none⟩) (r.length+1) k],.int .i64 (n:Int)] _ _;obtain⟨s,hs⟩:∃x,T q.text=x:=⟨_,rfl⟩;have hsz:s.size=q.text.length:=(by rw[←hs];rfl);obtain⟨m,hm⟩:∃m:Nat,m=n+1:=⟨_,rfl⟩
  have hwr:IntKind.i64.wrap ((n:Int)+1)=(m:Int):=by
    have e:(m:Int)=(n:Int)+1:=(by omega);rw[e];exact IntWalk.i64_in _ ⟨by omega,by omega⟩
  have x1:(0:Int)≤(n:Int):=(by omega);have x2:(n:Int)≤(s.size:Int):=(by omega);have x3:(0:Int)≤(m:Int):=(by omega);have x4:(m:Int)≤(s.size:Int):=(by omega);have HNA:=yH (show T (q.text.take n)=s.extract 0 n from by rw[←hs,take_T])
  have hrs:q.text.drop (n+1)=(s.extract m s.size).data.toList:=by
    rw[←hs,hm];simp only[ByteArray.data_extract,Array.toList_extract];rw[List.extract_eq_take_drop,List.take_of_length_le (by rw[List.length_drop,T_size];omega)]
  rw[hrs]at hr0 ⊢;obtain⟨vv,hvv⟩:∃v,valT (s.extract m s.size).data.toList r=v:=⟨_,rfl⟩;have HVV:=yH hvv;rw[hvv];clear hvv;obtain⟨nn,hnn⟩:∃v,q.text.take n=v:=⟨_,rfl⟩;rw[hnn]at HNA ⊢;clear hnn;have hrl:((s.extract m s.size).data.toList= [])↔(s.extract m s.size).toList.isEmpty=true:=(by rw[Lib.toList_data,List.isEmpty_iff]);obtain⟨kd,hkd⟩:∃x,q.kind=x:=⟨_,rfl⟩;obtain⟨s2,hs2⟩:∃x,T q.op=x:=⟨_,rfl⟩;obtain⟨wl,hwl⟩:∃x,q.word.length=x:=⟨_,rfl⟩;obtain⟨qq,hqq⟩:∃x,q.q=x:=⟨_,rfl⟩;obtain⟨N,hN⟩:∃N,r.length+1=N:=⟨_,rfl⟩;have HN:=yH hN;rw[hkd]at a0 HMK;rw[hs]at a1 HMK;rw[hs2]at a2 HMK;rw[hwl]at a3 HMK;rw[hqq]at a4 HMK;rw[hN]at HMK hk ⊢;have e0:=fun o1 o2=>cell_alloc (cell_alloc a0 o1) o2;have e1:=fun o1 o2=>cell_alloc (cell_alloc a1 o1) o2;have e2:=fun o1 o2=>cell_alloc (cell_alloc a2 o1) o2;have e3:=fun o1 o2=>cell_alloc (cell_alloc a3 o1) o2;have e4:=fun o1 o2=>cell_alloc (cell_alloc a4 o1) o2;have n0:(0:Int)<(N:Int):=(by omega);have n1:(1:Int)≤(N:Int):=(by omega);have n2:(N:Int)≤(k:Int):=(by omega);obtain⟨dss,dl,dp,dc,dn⟩:=HPM;have HDS:=yH (And.intro dl (And.intro dp (And.intro dc dn)));clear hu hu1 hb hsm hfew hkd hs2 hwl hqq a0 a1 a2 a3 a4 dl dp dc dn hq1 hm;obtain rfl:N=1:=(by rw[hr1]at hN;simpa using hN.symm);have HR1:=yH hr1;clear hr1
  have q4:(k-1==0)=false:=by
    have:¬k-1=0:=by omega
    simpa using this
  have q5:¬k=1:=hk1;have q6:(1:Int)<(k:Int):=(by omega);have HDSC:=yH (show ∀(W:World),Below w0.heap.size w0 W→∀(j:Nat) (u:Value),dss.flatten[j]? =some u→W.cell? ((⟨b,o+5,none⟩:Addr).add j)=some u from fun W hW j u hj=>by have h:=HPC.out W hW _ _ (HDS.out.2.2.2 j u hj);unfold Addr.add;split<;>simp_all);have hem:(s.extract m s.size).toList.isEmpty=true:=hrl.1 hr0;have HR0:=yH hr0;clear hr0 hrl hrs hs hsz hn;go_enter Tryz.func214,Tryz.ntmps214
  go_upto_region 6 with fail
  obtain⟨V,hV⟩:∃V,V=(((w.alloc (.cells #[.slice (some ⟨b,o,none⟩) 1 k] 45)).alloc (.cells #[.string ⟨#[]⟩,.slice none 0 0] 144)).alloc (.cells #[.int .i64 kd,.string s,.string s2,.slice up wl uc,.bool qq] 55)):=⟨_,rfl⟩;rw[←hV]at HMK ⊢;have g0:V.cell? ⟨w.heap.size,0,none⟩=some (.slice (some ⟨b,o,none⟩) 1 k):=(by rw[cell_plain HMK.out.word];rfl);clear hV
  go_wp2_with (first
    |(at_builtin;refine wpList_adds (by rfl) (.tmp 24) (.tmp 27) (by rfl) (ad:=⟨b,o+5,none⟩) (m:=0) (n:=0) (qs:=r) (dss:=dss) (p:=none) (c:=0) (css:= []) (ps:=([]:List Pt)) (RowG.nil w0 V 55 5 PartP (w.heap.size+3)) (by rfl) HDS.out.1 HDS.out.2.1 HDS.out.2.2.1 (fun j u hj=>HDSC.out _ HMK.out.base j u hj) (by rfl) (by rfl) (by have:=HN.out;omega) (by have:=HFW.out;have:=HN.out;omega) (gS.1 HMK.out.part).1 ?_;intro p4 c4 w4 hp4 hk4 hnil;obtain⟨rfl,rfl⟩:=hnil rfl rfl rfl rfl;have HA4:=yH (HMK.out.turn HBS.out hk4 (fun k hk=>by simp[Value.ownBlock]at hk));clear hp4 hk4 hnil)
    |(refine wpList_one elPart (by rfl) (.tmp 32) (by rfl) _ (pcells ⟨1,[],[],[],true⟩ (.slice none 0 0)) rfl (part_cel (W:=w0) (q:=⟨1,[],[],[],true⟩) (PsAt.nil w0 0)) (by rfl) ?_;have hpq:=(⟨_,(RowG.one (w0:=w0) (w:=w4) (e:=55) (sz:=5) (P:=PartP) (B:=w.heap.size+3) (C:=w4.heap.size) (x:=(⟨1,[],[],[],true⟩:Pt)) (part_cel (W:=w0) (q:=⟨1,[],[],[],true⟩) (PsAt.nil w0 0)) (NewAt.of0 fun W _=>⟨_,rfl,PsAt.nil W 0⟩) (gS.1 HA4.out.part).1 (gS.1 HA4.out.part).1).choose_spec.1.nofar (fun k hk=>by have:=(RowG.one (w0:=w0) (w:=w4) (e:=55) (sz:=5) (P:=PartP) (B:=w.heap.size+3) (C:=w4.heap.size) (x:=(⟨1,[],[],[],true⟩:Pt)) (part_cel (W:=w0) (q:=⟨1,[],[],[],true⟩) (PsAt.nil w0 0)) (NewAt.of0 fun W _=>⟨_,rfl,PsAt.nil W 0⟩) (gS.1 HA4.out.part).1 (gS.1 HA4.out.part).1).choose_spec.2 k hk;omega)⟩:PaR w0 (w4.alloc (.cells (pcells ⟨1,[],[],[],true⟩ (.slice none 0 0)).toArray 55)) (w.heap.size+3) (.slice (some ⟨w4.heap.size,0,none⟩) 1 1) [⟨1,[],[],[],true⟩]);have HPQ:=yH hpq;have HA5:=yH (HA4.out.new (below_new w4 (.cells (pcells ⟨1,[],[],[],true⟩ (.slice none 0 0)).toArray 55)));have h1:(w4.alloc (.cells (pcells ⟨1,[],[],[],true⟩ (.slice none 0 0)).toArray 55)).cell? ⟨w.heap.size+1+1,1,none⟩=some (.string s):=cell_plain HA5.out.part 1;clear hpq)
    |(refine wpList_store_row (by rfl) 144 (.tmp 4) (.tmp 40) (by rfl) (w.heap.size+1) #[.string (s.extract 0 n),(.slice (some ⟨w4.heap.size,0,none⟩) 1 1)] (by rfl) (by rfl) 144 #[.string ⟨#[]⟩,.slice none 0 0] HA5.out.res assign_info rfl (by simp[Value.oneCell']) ?_))
  (try simp only[Exit.inBlock,Exit.then])
  refine bodyPost_ret (qret_assign rfl (setRow_heap (w4.alloc (.cells (pcells ⟨1,[],[],[],true⟩ (.slice none 0 0)).toArray 55)) (w.heap.size+1) _ #[.string (s.extract 0 n),(.slice (some ⟨w4.heap.size,0,none⟩) 1 1)] 144 (0,0) HA5.out.res) rfl) rfl ?_;have hkz:=kept_row0 (w4.alloc (.cells (pcells ⟨1,[],[],[],true⟩ (.slice none 0 0)).toArray 55)) (w.heap.size+1) #[.string (s.extract 0 n),(.slice (some ⟨w4.heap.size,0,none⟩) 1 1)];refine⟨below3 HA5.out.below hkz (fun i hi=>by omega),?_⟩;rw[HNA.out,←HVV.out];unfold valT;rw[if_pos ⟨HR0.out,HR1.out⟩];exact⟨_,_,_,rfl,((PaR.ps (HPQ.out) (by have:=HFW.out;have:=HN.out;simp[maxLen];try omega)).kept hkz (fun i h1 h2=>by omega)).base (by omega)⟩
set_option maxHeartbeats 16000000 in
set_option maxRecDepth 10000 in
theorem qassign_rest {w0 w:World} (hb:Below w0.heap.size w0 w) (q:Pt) (r:List Pt) (p:Option Addr) (k n:Nat) (hu:PsAt w0 (.slice p (q::r).length k) (q::r)) (hk:(q::r).length≤k) (hsm:Small (q::r)) (hfew:(q::r).length≤100000) (hn:n<q.text.length) (hr0:q.text.drop (n+1)= []) (hr1:¬r= []):
    Calls Tryz.prog 214 #[.agg #[.slice p (q::r).length k],.int .i64 (n:Int)] w fun e w'=>QaEnd w0 w w' e (q.text.take n) (valT (q.text.drop (n+1)) r):=by
  have hu1:=hu.stays hb;obtain⟨b,o,c,u,he,⟨up,uc,rfl⟩,a0,a1,a2,a3,a4⟩:=first_cells hu1;simp only[List.length_cons,Value.slice.injEq]at he;obtain⟨rfl, -,rfl⟩:=he;have HBS:=yH hb.size;have HPM:=hu.more;have HPC:=yH (show ∀(W:World),Below w0.heap.size w0 W→∀(a:Addr) (v:Value),w0.cell? a=some v→W.cell? a=some v from fun W hW a v h=>(hW.cell (World.block_lt_of_cell? w0 _ h)).trans h);have HMK:=yH (AsO.mk0 hb (.slice (some ⟨b,o,none⟩) (r.length+1) k) #[.int .i64 q.kind,.string (T q.text),.string (T q.op),.slice up q.word.length uc,.bool q.q]);have hq1:=(hsm.get (List.mem_cons_self ..)).1;simp only[List.length_cons]at hk hfew;have HFW:=yH hfew;show Calls _ _ #[.agg #[.slice (some ⟨b,o,none⟩) (r.length+1) k],.int .i64 (n:Int)] _ _;obtain⟨s,hs⟩:∃x,T q.text=x:=⟨_,rfl⟩;have hsz:s.size=q.text.length:=(by rw[←hs];rfl);obtain⟨m,hm⟩:∃m:Nat,m=n+1:=⟨_,rfl⟩
  have hwr:IntKind.i64.wrap ((n:Int)+1)=(m:Int):=by
    have e:(m:Int)=(n:Int)+1:=(by omega);rw[e];exact IntWalk.i64_in _ ⟨by omega,by omega⟩
  have x1:(0:Int)≤(n:Int):=(by omega);have x2:(n:Int)≤(s.size:Int):=(by omega);have x3:(0:Int)≤(m:Int):=(by omega);have x4:(m:Int)≤(s.size:Int):=(by omega);have HNA:=yH (show T (q.text.take n)=s.extract 0 n from by rw[←hs,take_T])
  have hrs:q.text.drop (n+1)=(s.extract m s.size).data.toList:=by
    rw[←hs,hm];simp only[ByteArray.data_extract,Array.toList_extract];rw[List.extract_eq_take_drop,List.take_of_length_le (by rw[List.length_drop,T_size];omega)]
  rw[hrs]at hr0 ⊢;obtain⟨vv,hvv⟩:∃v,valT (s.extract m s.size).data.toList r=v:=⟨_,rfl⟩;have HVV:=yH hvv;rw[hvv];clear hvv;obtain⟨nn,hnn⟩:∃v,q.text.take n=v:=⟨_,rfl⟩;rw[hnn]at HNA ⊢;clear hnn;have hrl:((s.extract m s.size).data.toList= [])↔(s.extract m s.size).toList.isEmpty=true:=(by rw[Lib.toList_data,List.isEmpty_iff]);obtain⟨kd,hkd⟩:∃x,q.kind=x:=⟨_,rfl⟩;obtain⟨s2,hs2⟩:∃x,T q.op=x:=⟨_,rfl⟩;obtain⟨wl,hwl⟩:∃x,q.word.length=x:=⟨_,rfl⟩;obtain⟨qq,hqq⟩:∃x,q.q=x:=⟨_,rfl⟩;obtain⟨N,hN⟩:∃N,r.length+1=N:=⟨_,rfl⟩;have HN:=yH hN;rw[hkd]at a0 HMK;rw[hs]at a1 HMK;rw[hs2]at a2 HMK;rw[hwl]at a3 HMK;rw[hqq]at a4 HMK;rw[hN]at HMK hk ⊢;have e0:=fun o1 o2=>cell_alloc (cell_alloc a0 o1) o2;have e1:=fun o1 o2=>cell_alloc (cell_alloc a1 o1) o2;have e2:=fun o1 o2=>cell_alloc (cell_alloc a2 o1) o2;have e3:=fun o1 o2=>cell_alloc (cell_alloc a3 o1) o2;have e4:=fun o1 o2=>cell_alloc (cell_alloc a4 o1) o2;have n0:(0:Int)<(N:Int):=(by omega);have n1:(1:Int)≤(N:Int):=(by omega);have n2:(N:Int)≤(k:Int):=(by omega);obtain⟨dss,dl,dp,dc,dn⟩:=HPM;have HDS:=yH (And.intro dl (And.intro dp (And.intro dc dn)));clear hu hu1 hb hsm hfew hkd hs2 hwl hqq a0 a1 a2 a3 a4 dl dp dc dn hq1 hm;have hN2:2≤N:=(by have:=List.length_pos_iff.2 hr1;omega);have hk1:¬k=1:=(by omega);have z1:¬N-1=0:=(by omega);have z2:¬((N-1:Nat):Int)=0:=(by omega);have z3:(((N-1:Nat):Int)==0)=false:=(by simpa using z1);have HR1:=yH hr1;clear hr1 hN2
  have q4:(k-1==0)=false:=by
    have:¬k-1=0:=by omega
    simpa using this
  have q5:¬k=1:=hk1;have q6:(1:Int)<(k:Int):=(by omega);have HDSC:=yH (show ∀(W:World),Below w0.heap.size w0 W→∀(j:Nat) (u:Value),dss.flatten[j]? =some u→W.cell? ((⟨b,o+5,none⟩:Addr).add j)=some u from fun W hW j u hj=>by have h:=HPC.out W hW _ _ (HDS.out.2.2.2 j u hj);unfold Addr.add;split<;>simp_all);have hem:(s.extract m s.size).toList.isEmpty=true:=hrl.1 hr0;have HR0:=yH hr0;clear hr0 hrl hrs hs hsz hn;go_enter Tryz.func214,Tryz.ntmps214
  go_upto_region 6 with fail
  obtain⟨V,hV⟩:∃V,V=(((w.alloc (.cells #[.slice (some ⟨b,o,none⟩) N k] 45)).alloc (.cells #[.string ⟨#[]⟩,.slice none 0 0] 144)).alloc (.cells #[.int .i64 kd,.string s,.string s2,.slice up wl uc,.bool qq] 55)):=⟨_,rfl⟩;rw[←hV]at HMK ⊢;have g0:V.cell? ⟨w.heap.size,0,none⟩=some (.slice (some ⟨b,o,none⟩) N k):=(by rw[cell_plain HMK.out.word];rfl);clear hV
  go_wp2_with (first
    |(at_builtin;refine wpList_adds (by rfl) (.tmp 24) (.tmp 27) (by rfl) (ad:=⟨b,o+5,none⟩) (m:=N-1) (n:=0) (qs:=r) (dss:=dss) (p:=none) (c:=0) (css:= []) (ps:=([]:List Pt)) (RowG.nil w0 V 55 5 PartP (w.heap.size+3)) (by rfl) HDS.out.1 HDS.out.2.1 HDS.out.2.2.1 (fun j u hj=>HDSC.out _ HMK.out.base j u hj) (by rfl) (by rfl) (by have:=HN.out;omega) (by have:=HFW.out;have:=HN.out;omega) (gS.1 HMK.out.part).1 ?_;intro p4 c4 w4 hp4 hk4 _;rw[Nat.zero_add]at hp4;have HP4:=yH hp4;have HA4:=yH (HMK.out.turn HBS.out hk4 (fun k hk=>by simp[Value.ownBlock]at hk));have h1:w4.cell? ⟨w.heap.size+1+1,1,none⟩=some (.string s):=cell_plain HA4.out.part 1;clear hp4 hk4)
    |(refine wpList_store_row (by rfl) 144 (.tmp 4) (.tmp 40) (by rfl) (w.heap.size+1) #[.string (s.extract 0 n),(.slice p4 (N-1) c4)] (by rfl) (by rfl) 144 #[.string ⟨#[]⟩,.slice none 0 0] HA4.out.res assign_info rfl (by simp[Value.oneCell']) ?_))
  (try simp only[Exit.inBlock,Exit.then])
  refine bodyPost_ret (qret_assign rfl (setRow_heap w4 (w.heap.size+1) _ #[.string (s.extract 0 n),(.slice p4 (N-1) c4)] 144 (0,0) HA4.out.res) rfl) rfl ?_;have hkz:=kept_row0 w4 (w.heap.size+1) #[.string (s.extract 0 n),(.slice p4 (N-1) c4)];refine⟨below3 HA4.out.below hkz (fun i hi=>by omega),?_⟩;rw[HNA.out,←HVV.out];unfold valT;rw[if_neg (fun h=>HR1.out h.2),if_pos HR0.out];exact⟨_,_,_,rfl,((PaR.ps (HP4.out) (by have:=HFW.out;have:=HN.out;simp[maxLen];try omega)).kept hkz (fun i h1 h2=>by omega)).base (by omega)⟩
theorem qassign_any {w0 w:World} (hb:Below w0.heap.size w0 w) (q:Pt) (r:List Pt) (p:Option Addr) (k n:Nat) (hu:PsAt w0 (.slice p (q::r).length k) (q::r)) (hk:(q::r).length≤k) (hsm:Small (q::r)) (hfew:(q::r).length≤100000) (hn:n<q.text.length):
    Calls Tryz.prog 214 #[.agg #[.slice p (q::r).length k],.int .i64 (n:Int)] w fun e w'=>QaEnd w0 w w' e (q.text.take n) (valT (q.text.drop (n+1)) r):=by
  by_cases h0:q.text.drop (n+1)= []
  · by_cases h1:r= []
    · by_cases h2:k=1
      · exact qassign_none1 hb q r p k n hu hk hsm hfew hn h0 h1 h2
      · exact qassign_none2 hb q r p k n hu hk hsm hfew hn h0 h1 h2
    · exact qassign_rest hb q r p k n hu hk hsm hfew hn h0 h1
  · by_cases h2:k=1
    · exact qassign_more1 hb q r p k n hu hk hsm hfew hn h0 h2
    · exact qassign_more2 hb q r p k n hu hk hsm hfew hn h0 h2
end Go.Proofs.YtcpmjkefbjbhpaaGreatDoor
