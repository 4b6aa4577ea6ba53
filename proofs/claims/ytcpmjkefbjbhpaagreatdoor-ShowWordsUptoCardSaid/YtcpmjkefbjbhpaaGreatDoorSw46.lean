/-
  Proved: contracts of functions, plain facts. Conditions: as each says.
-/
import Derived.Test.YtcpmjkefbjbhpaaGreatDoorTreeNode
import Derived.Test.YtcpmjkefbjbhpaaGreatDoorSw27
import Derived.Test.YtcpmjkefbjbhpaaGreatDoorRpCmdK3b
import Derived.Test.YtcpmjkefbjbhpaaGreatDoorRpCmdK3c
import Derived.Test.YtcpmjkefbjbhpaaGreatDoorRexTokens
import Derived.Test.YtcpmjkefbjbhpaaGreatDoorSw13
import Derived.Test.YtcpmjkefbjbhpaaGreatDoorSw32
import Derived.Test.YtcpmjkefbjbhpaaGreatDoorSw19
namespace Go.Proofs.YtcpmjkefbjbhpaaGreatDoor
open Go Go.RowKit GlyphMath LexMath TreeMath
set_option maxHeartbeats 1000000 in
set_option maxRecDepth 100000 in
theorem is_any (ns:List Nd) (root:Int) (np:Option Addr) (nc:Nat) (w:World) (hN:NsAt w (.slice np ns.length nc) ns) (hS:Shapes w) (hsm:∀n∈ns,NSmall n):
    Calls Tryz.prog 33 #[.agg #[.slice np ns.length nc,.int .i64 root]] w fun e w'=>e= .returned (.bool (isT ns root))∧Below w.heap.size w w':=by
  have HB:=yH (fun o=>below_one w o);obtain⟨R,hR⟩:∃R,isT ns root=R:=⟨_,rfl⟩;have HR:=yH (show(decide (ns.length≤200)&&(walkT ns ns.length root 0==some ns.length))=R from hR);rw[hR]
  by_cases hl:ns.length≤200
  · have HI:=yH (show ∀o,Calls Tryz.prog 71 #[.pointer (some ⟨w.heap.size+1,0,none⟩),.int .i64 root] ((w.alloc o).alloc (.cells #[.slice np ns.length nc,.int .i64 0] 114)) fun e w'=>Below (w.alloc o).heap.size (w.alloc o) w'∧NodeEnd (w.heap.size+1) (.slice np ns.length nc) (walkT ns ns.length root 0) e w' from fun o=>by
      have hs:(w.alloc o).heap.size=w.heap.size+1:=World.size_alloc w o;have h1:=node_any (w0:=w.alloc o) (X:=w.heap.size+1) (hN.below (below_one w o)) (hS.below (below_one w o)) hsm (by rw[hs];exact Nat.le_refl _) (by omega) ns.length root 0 ((w.alloc o).alloc (.cells #[.slice np ns.length nc,.int .i64 0] 114)) (below_one _ _) (by have:=heap_alloc_new (w.alloc o) (.cells #[.slice np ns.length nc,.int .i64 0] 114);rwa [hs]at this) (by omega)
      exact h1.mono fun e w' ⟨_,h2,h3⟩=>⟨h2,h3⟩)
    have HRW:=yH (show(walkT ns ns.length root 0==some ns.length)=R by rw[←HR.out,decide_eq_true hl,Bool.true_and]);have hli:¬(200:Int)<(ns.length:Int):=(by omega);have hcw:=fun (o:Value) (W:World) (h:Below (w.alloc (.cells #[.slice np ns.length nc,o] 24)).heap.size (w.alloc (.cells #[.slice np ns.length nc,o] 24)) W)=>cell_below (cell_plain (heap_alloc_new w (.cells #[.slice np ns.length nc,o] 24)) 0) h;have HCW:=yH (show ∀(o:Value) (W:World),Below (w.alloc (.cells #[.slice np ns.length nc,o] 24)).heap.size (w.alloc (.cells #[.slice np ns.length nc,o] 24)) W→W.cell? ⟨w.heap.size,0,none⟩=some (.slice np ns.length nc)from hcw);obtain⟨M,hM⟩:∃M,walkT ns ns.length root 0=M:=⟨_,rfl⟩;rw[hM]at HI HRW
    generalize ns.length=N at HI HRW hli HCW ⊢
    clear hR hN hS hsm hl HR hM hcw
    cases M with
    |none=>
      have HRn:=yH (show false=R from HRW.out);clear HRW;go_enter Tryz.func33,Tryz.ntmps33
      go_wp2_with (go_at_call 71;refine(HI.out _).mono ?_;rintro e w2 ⟨hb,rfl⟩;have HB2:=yH hb;clear hb)
      go_ret;exact⟨ret_bool HRn.out,(HB.out _).trans (HB2.out.mono (HB.out _).size)⟩
    |some m=>
      have HRn:=yH (show(m==N)=R from by rw[←HRW.out];simp);clear HRW;go_enter Tryz.func33,Tryz.ntmps33
      go_wp2_with (go_at_call 71;refine(HI.out _).mono ?_;rintro e w2 ⟨hb,rfl,hx⟩;have x1:=cell_plain hx 1;have x2:=HCW.out _ _ hb;have HB2:=yH hb;clear hb hx)
      go_ret;exact⟨ret_bool (by rw[←HRn.out,←nat_beq]),(HB.out _).trans (HB2.out.mono (HB.out _).size)⟩
  · have HRn:=yH (show false=R by rw[←HR.out,decide_eq_false hl];rfl)
    have hli:(200:Int)<(ns.length:Int):=by omega
    generalize ns.length=N at hli ⊢
    clear hR hN hS hsm hl;go_enter Tryz.func33,Tryz.ntmps33;go_wp2_with fail;go_ret;exact⟨ret_bool HRn.out,HB.out _⟩
end Go.Proofs.YtcpmjkefbjbhpaaGreatDoor
namespace Go.Proofs.YtcpmjkefbjbhpaaGreatDoor
open Go Go.RowKit GlyphMath LexMath TreeMath ParseMath
set_option maxHeartbeats 16000000 in
set_option maxRecDepth 10000 in
theorem kcompound {w0 w:World} {X:Nat} {S:PS} {d:Nat} (h:Rr w0 w X S) (h0:S.is [123]=false) (h1:S.is [40]=false) (k0:S.is [105,102]=false) (k1:S.is [119,104,105,108,101]=false) (k2:S.is [117,110,116,105,108]=false) (k3:S.is [102,111,114]=false) (k4:S.is [99,97,115,101]=false)  :
    Calls Tryz.prog 178 #[.pointer (some ⟨X,0,none⟩),.int .i64 (d:Int)] w fun e w'=>e= .returned (.tuple #[.agg zeroN.toArray,.bool false])∧QStep w0 w w' X S:=by
  have HX:=yH h.base;have HR1:=yH (RdH.begin h);have HW0:=yH (show ∀W,Rr w0 W X S→_ from fun W hW=>by have:=qword_any hW (s:= [105,102]) (by decide) (by decide);unfold PS.takes at this;rw[k0,if_neg (by decide)]at this;exact this);have HW1:=yH (show ∀W,Rr w0 W X S→_ from fun W hW=>by have:=qword_any hW (s:= [119,104,105,108,101]) (by decide) (by decide);unfold PS.takes at this;rw[k1,if_neg (by decide)]at this;exact this);have HW2:=yH (show ∀W,Rr w0 W X S→_ from fun W hW=>by have:=qword_any hW (s:= [117,110,116,105,108]) (by decide) (by decide);unfold PS.takes at this;rw[k2,if_neg (by decide)]at this;exact this);have HW3:=yH (show ∀W,Rr w0 W X S→_ from fun W hW=>by have:=qword_any hW (s:= [102,111,114]) (by decide) (by decide);unfold PS.takes at this;rw[k3,if_neg (by decide)]at this;exact this);have HW4:=yH (show ∀W,Rr w0 W X S→_ from fun W hW=>by have:=qword_any hW (s:= [99,97,115,101]) (by decide) (by decide);unfold PS.takes at this;rw[k4,if_neg (by decide)]at this;exact this);have HBE:=yH (show ∀W,Rr w0 W X S→Calls Tryz.prog 207 #[.pointer (some ⟨X,0,none⟩),.int .i64 (d:Int)] W fun e w'=>e= .returned (.tuple #[.agg zeroN.toArray,.bool false])∧QStep w0 W w' X S from fun W hW=>qbody_none d hW h0 h1);obtain⟨D,hD⟩:∃D:Int,(d:Int)=D:=⟨_,rfl⟩;have HD:=yH hD;rw[hD]at HBE ⊢;clear h h0 h1 hD  k0 k1 k2 k3 k4;go_enter Tryz.func178,Tryz.ntmps178
  go_wp2_with (first
    |(go_at_call 207;refine(HBE.out _ HR1.out.pr).mono ?_;rintro en w2 ⟨rfl,hs⟩;have HR2:=yH (HR1.out.step HX.out.2 hs);clear hs)
    |(refine wpList_store_row (by rfl) 74 (.tmp 6) (.tmp 12) (by rfl) w2.heap.size zeroN.toArray (by rfl) (by rfl) 74 zeroN.toArray (heap_alloc_new w2 _) (by rw[rtree_info];rfl) rfl (all_oneCell_toArray (ofC_cel _ _ _ _).2) ?_;rw[World.setRow_alloc_new];have hm:=HR2.out.new HX.out.2 (below_new w2 (.cells zeroN.toArray 74));obtain⟨w3,hw⟩:∃W,W=w2.alloc (.cells zeroN.toArray 74):=⟨_,rfl⟩;rw[←hw]at hm ⊢;have HR3:=yH hm;clear hw hm)
    |(go_at_call 143;(with_reducible refine(HW0.out _ HR3.out.pr).mono ?_);rintro en w4 ⟨rfl,hs⟩;have HR4:=yH (HR3.out.step HX.out.2 hs);clear hs)
    |(go_at_call 143;(with_reducible refine(HW1.out _ HR4.out.pr).mono ?_);rintro en w5 ⟨rfl,hs⟩;have HR5:=yH (HR4.out.step HX.out.2 hs);clear hs)
    |(go_at_call 143;(with_reducible refine(HW2.out _ HR5.out.pr).mono ?_);rintro en w6 ⟨rfl,hs⟩;have HR6:=yH (HR5.out.step HX.out.2 hs);clear hs)
    |(go_at_call 143;(with_reducible refine(HW3.out _ HR6.out.pr).mono ?_);rintro en w7 ⟨rfl,hs⟩;have HR7:=yH (HR6.out.step HX.out.2 hs);clear hs)
    |(go_at_call 143;(with_reducible refine(HW4.out _ HR7.out.pr).mono ?_);rintro en w8 ⟨rfl,hs⟩;have HR8:=yH (HR7.out.step HX.out.2 hs);clear hs)
    |(refine wpList_store_row (by rfl) 74 (.tmp 4) (.tmp 47) (by rfl) w.heap.size zeroN.toArray (by rfl) (by rfl) 74 zeroN.toArray HR8.out.zero (by rw[rtree_info];rfl) rfl (all_oneCell_toArray (ofC_cel _ _ _ _).2) ?_))
  (try simp only[Exit.inBlock,Exit.then])
  refine bodyPost_ret (ret_rtree2 rfl (setRow_heap w8 w.heap.size zeroN.toArray _ 74 (0,0) HR8.out.zero) (ofC_cel _ _ _ _) rfl rfl) rfl ?_;have hk:=kept_row0 w8 w.heap.size zeroN.toArray;have hx:=HX.out;exact⟨rfl,HR8.out.pr.kept hk (by omega) (fun i hi=>by omega),HR8.out.kept.trans hk fun i hi=> .inr (by omega)⟩
set_option maxHeartbeats 16000000 in
set_option maxRecDepth 10000 in
theorem kcommand {w0:World} (hT:Tabs w0) {X:Nat} {S S':PS} {t:Tr} {nm:List UInt8} (he:S.err=0) (hk:S.hd.kind=1) (hp:plainT S.hd.word=some nm) (hr:reservedT nm=false) (hn2:S.take.hd.kind=3∨(S.take.hd.kind=2∧S.take.hd.text≠ [40]))
    (hno:∀s∈([[123],[40],[105,102],[119,104,105,108,101],[117,110,116,105,108],[102,111,114],[99,97,115,101]]:List (List UInt8)),S.is s=false)
    (hes:S'.err=0) (hs:∀W,Rr w0 W X S→Calls Tryz.prog 181 #[.pointer (some ⟨X,0,none⟩)] W fun e w'=>TrAt w0 W w' e X t S'):OneAt w0 144 X 0 S t S':=by
  intro w h;have HX:=yH h.base;have HR1:=yH (RdH.begin h);have HDP:=yH (show ∀W,Rr w0 W X S→_ from fun W hW=>by have:=qdeep_any hW 0;rw[if_neg (by decide)]at this;exact this);have HCM:=yH (fun W (hW:Rr w0 W X S)=>kcompound (d:=0) hW (hno _ (by simp)) (hno _ (by simp)) (hno _ (by simp)) (hno _ (by simp)) (hno _ (by simp)) (hno _ (by simp)) (hno _ (by simp)));have HN:=yH (fun W (hW:Rr w0 W X S)=>qnow_any hW);have hsm:=plain_small h.good;have HSI:=yH (show ∀W,Rr w0 W X S→Calls Tryz.prog 181 #[.pointer (some ⟨X,0,none⟩)] W fun e w'=> ∃t',TrAt w0 W w' e X t' (t,S').2∧((t,S').2.err=0→t'=(t,S').1)from fun W hW=>(hs W hW).mono fun e w' h=>⟨t,h,fun _=>rfl⟩);rw[hp,Option.getD_some]at hsm;have HPL:=yH (fun W (hW:Below w0.heap.size w0 W) p k (hu:PsAt w0 (.slice p S.hd.word.length k) S.hd.word)=>rplain_any S.hd.word _ W (hu.stays hW));have HNA:=yH (fun W (hW:Below w0.heap.size w0 W)=>rname_any (T nm) W (by rw[T_size];omega) (hT.below hW));have HRV:=yH (fun W=>qreserved_any nm W);unfold wordV at HPL;unfold tkN at HN;obtain⟨tn,htn⟩:∃x,T nm=x:=⟨_,rfl⟩;rw[hp,Option.getD_some,htn,Option.isSome_some]at HPL;rw[htn,hr]at HRV;obtain⟨NB,hNB⟩:∃x,nameT nm=x:=⟨_,rfl⟩;have hNB2:nameL (letters (T nm))=NB:=hNB;rw[hNB2,htn]at HNA;obtain⟨tx,htx⟩:∃x,T S.hd.text=x:=⟨_,rfl⟩;obtain⟨wl,hwl⟩:∃x,S.hd.word.length=x:=⟨_,rfl⟩;obtain⟨wd,hwd⟩:∃x,S.hd.word=x:=⟨_,rfl⟩;rw[hwl]at HPL;simp only[htx,hwl,hk]at HN;simp only[hwd]at HN HPL;refine Calls.mono (R:=fun e w'=> ∃t',TrAt w0 w w' e X t' (t,S').2∧((t,S').2.err=0→t'=(t,S').1)) ?_ ?_
  · rcases hn2 with h3|⟨h2,hx⟩
    · exact qcmd_k3b HX HR1 HDP HCM HN HPL HNA HRV HSI hk he h3
    · exact qcmd_k3c HX HR1 HDP HCM HN HPL HNA HRV HSI hk he h2 hx
  · rintro e w' ⟨t',h1,h2⟩
    rw[h2 hes]at h1;exact h1
end Go.Proofs.YtcpmjkefbjbhpaaGreatDoor
namespace Go.Proofs.YtcpmjkefbjbhpaaGreatDoor
open Go Go.RowKit GlyphMath LexMath
theorem rtokens_long (s:ByteArray) (w:World) (hs:2000<s.size):
    Calls Tryz.prog 20 #[.string s] w fun e w'=>e= .returned (.tuple #[zeroV,.int .i64 0,.int .i64 3])∧Below w.heap.size w w':=by
  have hsi:(2000:Int)<(s.size:Int):=(by omega);clear hs;go_enter Tryz.func20,Tryz.ntmps20;go_wp2_with fail
  go_ret3
  exact⟨rfl,Below.refl _ _⟩
theorem rtokens_bad (s:ByteArray) (w:World) (hs:s.size≤2000) (ht:isText s=false) (hT:Tabs w):
    Calls Tryz.prog 20 #[.string s] w fun e w'=>e= .returned (.tuple #[zeroV,.int .i64 ((place s:Nat):Int),.int .i64 2])∧Below w.heap.size w w':=by
  have HV:=yH (show _ from by have:=rvalid_any s w (by omega) hT;rw[ht]at this;exact this);have hsi:¬(2000:Int)<(s.size:Int):=(by omega);obtain⟨P,hP⟩:∃P:Int,(place s:Int)=P:=⟨_,rfl⟩;rw[hP]at HV ⊢;clear hs ht hP hT;go_enter Tryz.func20,Tryz.ntmps20;go_wp2_with fail;refine HV.out.mono ?_;rintro e w1 ⟨rfl,hb1⟩;have H1:=yH hb1;clear hb1;go_wp2_with fail
  go_ret3
  exact⟨rfl,H1.out⟩
end Go.Proofs.YtcpmjkefbjbhpaaGreatDoor
namespace Go.Proofs.YtcpmjkefbjbhpaaGreatDoor
open Go Go.RowKit GlyphMath LexMath TreeMath ParseMath
theorem get_mod (l:List Nd) (a:Nat) (f:Nd→Nd) (k:Nat):(l.modify a f)[k]? =if a=k then l[k]?.map f else l[k]? :=by
  rw[List.getElem?_modify]
  by_cases h:a=k<;>simp[h]
theorem modify_two (l:List Nd) (a:Nat) (f g:Nd→Nd):(l.modify a f).modify a g=l.modify a (g ∘ f):=by
  apply List.ext_getElem?;intro k;simp only[get_mod]
  by_cases h:a=k
  · rw[if_pos h,if_pos h,if_pos h];cases l[k]? <;>rfl
  · rw[if_neg h,if_neg h,if_neg h]
theorem modify_swap (l:List Nd) {a b:Nat} (hab:a≠b) (f g:Nd→Nd):(l.modify a f).modify b g=(l.modify b g).modify a f:=by
  apply List.ext_getElem?;intro k;simp only[get_mod]
  by_cases h:a=k
  · have h2:¬b=k:=by omega
    rw[if_pos h,if_neg h2,if_pos h,if_neg h2]
  · by_cases h2:b=k
    · rw[if_neg h,if_pos h2,if_neg h]
    · rw[if_neg h,if_neg h2,if_neg h]
theorem modify_app (l m:List Nd) {a:Nat} (ha:a<l.length) (f:Nd→Nd):(l++m).modify a f=l.modify a f++m:=by
  apply List.ext_getElem?;intro k;rw[get_mod]
  rcases Nat.lt_or_ge k l.length with h|h
  · rw[List.getElem?_append_left h,List.getElem?_append_left (by rw[List.length_modify];exact h),get_mod]
  · rw[List.getElem?_append_right h,List.getElem?_append_right (by rw[List.length_modify];exact h),List.length_modify,if_neg (by omega)]
mutual
theorem laidM_modify:∀(t:Tr) (l:List Nd) (a:Nat) (f:Nd→Nd),a<l.length→laidM t (l.modify a f)=(laidM t l).modify a f
  | .mk n kids,l,a,f,h=>by
    rw[laidM,laidM,List.length_modify,←modify_app l [n] h f];exact laidL_modify l.length kids (l++ [n]) a f (by simp;omega) (by omega)
theorem laidL_modify:∀(b:Nat) (ts:List Tr) (l:List Nd) (a:Nat) (f:Nd→Nd),a<l.length→a≠b→ParseMath.laidL b ts (l.modify a f)=(ParseMath.laidL b ts l).modify a f
  |b,[],l,a,f,h,hab=>by rw[ParseMath.laidL,ParseMath.laidL]
  |b,t::r,l,a,f,h,hab=>by
    rw[laidL_go,laidL_go,List.length_modify,modify_swap l hab,laidM_modify t _ a f (by rw[List.length_modify];exact h),laidL_modify b r _ a f (by rw[laidM_length,List.length_modify];omega) hab]
end
section
variable {w1 w : World} {v : Value} {css : List (List Value)} {ns : List Nd}
theorem LaidR.kept {D:Nat→Prop} {w':World} (h:LaidR w1 w v css ns) (hk:Kept D w w') (hb:∀k,D k→w1.heap.size≤k) (hD:∀q,D q→v.ownBlock≠some q∧∀(j:Nat) (ds:List Value) (a:Value),css[j]? =some ds→ds[2]? =some a→a.ownBlock≠some q):LaidR w1 w' v css ns where
  below:=below_kept h.below hk hb h.size
  row:=h.row.kept hk fun k hk' e=>hk'.elim (fun h=>h.elim) fun e2=>(hD k e).1 e2
  kids:=fun k cs n kv h1 h2 h3=>(h.kids k cs n kv h1 h2 h3).kept hk fun i hi e=>hi.elim (fun h=>h.elim) fun e2=>(hD i e).2 k cs kv h1 h3 e2
  apart:=h.apart
  off:=h.off
theorem LaidR.setKids (h:LaidR w1 w v css ns) {i:Nat} {cs:List Value} {n:Nd} {kv':Value} {ks:List Int} {F':Nat→Prop} {g c:Nat} (hv:v= .slice (some ⟨g,0,none⟩) ns.length c) (h1:css[i]? =some cs) (h2:ns[i]? =some n)
    (hr:RowG w1 w 3 1 (fun _ cs x=>cs= [.int .i64 x]) w1.heap.size kv' (ks.map fun x=> [.int .i64 x]) ks F') (hF:∀k,F' k→False)
    (hap:∀q,kv'.ownBlock=some q→v.ownBlock≠some q∧∀(j:Nat) (ds:List Value) (a:Value),css[j]? =some ds→ds[2]? =some a→a.ownBlock≠some q):
    LaidR w1 (w.setCell ⟨g,i*7+2,none⟩ kv') v (css.set i (cs.set 2 kv')) (ns.modify i fun n=> { n with kids:=ks }):=by
  have hgv:v.ownBlock=some g:=(by rw[hv];rfl);have hg:=h.row.lt g (.inr hgv);have hcel:=h.row.each cs (List.mem_of_getElem? h1)
  have hne:∀k,kv'.ownBlock=some k→k≠g:=fun k e e2=>by
    subst e2;exact(hap k e).1 hgv
  have hks:Kept (fun k=>k=g) w (w.setCell ⟨g,i*7+2,none⟩ kv'):=(Kept.refl (fun k=>k=g) w).setCell (p:=⟨g,i*7+2,none⟩) (.inl rfl) _;have hil:=(List.getElem?_eq_some_iff.1 h1).1
  have hone:kv'.oneCell'=true:=by
    obtain⟨a,c',e⟩:=hr.shape;rw[e];rfl
  have hset:∀(k:Nat) (ds:List Value),(css.set i (cs.set 2 kv'))[k]? =some ds→(k=i∧ds=cs.set 2 kv')∨(k≠i∧css[k]? =some ds):=fun k ds e=>by
    by_cases hki:i=k
    · subst hki
      rw[List.getElem?_set_self hil]at e;exact .inl ⟨rfl,by simpa using e.symm⟩
    · rw[List.getElem?_set_ne hki]at e
      exact .inr ⟨fun e=>hki e.symm,e⟩
  have hmod:∀(k:Nat) (m:Nd),(ns.modify i fun n=> { n with kids:=ks })[k]? =some m→(k=i∧m= { n with kids:=ks })∨(k≠i∧ns[k]? =some m):=fun k m e=>by
    rw[List.getElem?_modify]at e
    by_cases hki:i=k
    · subst hki
      rw[h2]at e;simp only[if_true,Option.map_eq_map,Option.map_some,Option.some.injEq]at e;exact .inl ⟨rfl,e.symm⟩
    · simp only[if_neg hki]at e
      exact .inr ⟨fun e=>hki e.symm,by simpa using e⟩
  have h22:(cs.set 2 kv')[2]? =some kv':=List.getElem?_set_self (by rw[hcel.1];decide);have hapk:∀(k:Nat) (ds:List Value) (b:Value) (q:Nat),k≠i→css[k]? =some ds→ds[2]? =some b→b.ownBlock=some q→kv'.ownBlock≠some q:=fun k ds b q _ e1 e2 e3 e4=>(hap q e4).2 k ds b e1 e2 e3;refine⟨below_kept h.below hks (fun k e=>by rw[e];exact hg.1) h.size,⟨?_,?_,?_,?_,fun _ h=>h.elim⟩,?_,?_,?_⟩
  · rw[List.length_modify,flat_set h.row.each i cs 2 kv' h1 (by decide)]
    have:=h.row.own;rw[hv]at this ⊢;exact ownsRow_set this _ _
  · rw[List.length_set,List.length_modify]
    exact h.row.len
  · intro ds hds
    rcases List.mem_or_eq_of_mem_set hds with e|e
    · exact h.row.each ds e
    · subst e
      refine⟨by rw[List.length_set];exact hcel.1,fun u hu=> ?_⟩
      rcases List.mem_or_eq_of_mem_set hu with e|e
      · exact hcel.2 u e
      · rw[e];exact hone
  · intro k ds m e1 e2
    refine(Stays.of0 fun W _=> ?_)
    rcases hset k ds e1 with ⟨a1,a2⟩|⟨a1,a2⟩
    · subst a1 a2
      rcases hmod k m e2 with ⟨_,b2⟩|⟨b1,_⟩
      · subst b2
        obtain⟨kv0,wv,pv,av,rv,e,hh⟩:=(h.row.sub k cs n h1 h2).now h.below;exact⟨kv',wv,pv,av,rv,by rw[e];rfl,hh⟩
      · exact absurd rfl b1
    · rcases hmod k m e2 with ⟨b1,_⟩|⟨_,b2⟩
      · exact absurd b1 a1
      · exact(h.row.sub k ds m a2 b2).now h.below
  · intro k ds m kk e1 e2 e3
    rcases hset k ds e1 with ⟨a1,a2⟩|⟨a1,a2⟩
    · subst a1 a2
      rw[h22]at e3
      cases e3
      rcases hmod k m e2 with ⟨_,b2⟩|⟨b1,_⟩
      · subst b2
        have hr':=(hr.nofar hF).kept hks fun q hq e=>hq.elim (fun h=>h.elim) fun hq=>hne q hq e;exact hr'
      · exact absurd rfl b1
    · rcases hmod k m e2 with ⟨b1,_⟩|⟨_,b2⟩
      · exact absurd b1 a1
      · refine(h.kids k ds m kk a2 b2 e3).kept hks fun q hq e=>hq.elim (fun h=>h.elim) fun hq=> ?_
        subst e;exact h.off k ds kk q a2 e3 hq hgv
  · intro k j ds es a b q e1 e2 e3 e4 e5 e6
    rcases hset k ds e1 with ⟨a1,a2⟩|⟨a1,a2⟩
    · subst a1 a2
      rw[h22]at e3
      cases e3
      rcases hset j es e2 with ⟨b1,b2⟩|⟨b1,b2⟩
      · exact b1.symm
      · exact absurd e5 (hapk j es b q b1 b2 e4 e6)
    · rcases hset j es e2 with ⟨b1,b2⟩|⟨b1,b2⟩
      · subst b1 b2
        rw[h22]at e4
        cases e4
        exact absurd e6 (hapk k ds a q a1 a2 e3 e5)
      · exact h.apart k j ds es a b q a2 b2 e3 e4 e5 e6
  · intro k ds a q e1 e2 e3 e4
    rcases hset k ds e1 with ⟨a1,a2⟩|⟨a1,a2⟩
    · subst a1 a2
      rw[h22]at e2
      cases e2
      rw[hgv]at e4;exact hne q e3 (by simpa using e4.symm)
    · exact h.off k ds a q a2 e2 e3 e4
end
structure PutF (w w':World) (v v':Value) (css css':List (List Value)):Prop where
  kept:Kept (fun k=>v.ownBlock=some k) w w'
  at_:v'.ownBlock=v.ownBlock∨∀k,v'.ownBlock=some k→w.heap.size≤k
  old:∀(i:Nat) (cs:List Value) (a:Value) (g:Nat),css'[i]? =some cs→cs[2]? =some a→a.ownBlock=some g→(∃ds,css[i]? =some ds∧ds[2]? =some a)∨w.heap.size≤g
theorem PutF.trans {w w2 w3:World} {v v2 v3:Value} {css css2 css3:List (List Value)} (h:PutF w w2 v v2 css css2) (k:PutF w2 w3 v2 v3 css2 css3):PutF w w3 v v3 css css3:=by
  have h0:=h.kept.size;refine⟨h.kept.trans k.kept fun i hi=> ?_,?_,?_⟩
  · rcases h.at_ with e|e
    · exact .inl (e▸hi)
    · exact .inr (e i hi)
  · rcases k.at_ with e|e
    · rw[e];exact h.at_
    · exact .inr fun i hi=>Nat.le_trans h0 (e i hi)
  · intro i cs a g h1 h2 h3
    rcases k.old i cs a g h1 h2 h3 with ⟨ds,e1,e2⟩|e
    · exact h.old i ds a g e1 e2 h3
    · exact .inr (Nat.le_trans h0 e)
theorem PutF.push {w w2:World} {v v2:Value} {css:List (List Value)} {cs:List Value} (hk:Kept (fun k=>v.ownBlock=some k) w w2) (hat:v2.ownBlock=v.ownBlock∨∀k,v2.ownBlock=some k→w.heap.size≤k) (h2:cs[2]? =some (.slice none 0 0)):PutF w w2 v v2 css (css++ [cs]):=by
  refine⟨hk,hat,fun i ds a g e1 e2 e3=> ?_⟩
  rcases Nat.lt_or_ge i css.length with hl|hl
  · rw[List.getElem?_append_left hl]at e1
    exact .inl ⟨ds,e1,e2⟩
  · rw[List.getElem?_append_right hl]at e1
    obtain⟨j1,j2⟩:=List.getElem?_eq_some_iff.1 e1;simp only[List.length_singleton]at j1;simp only[List.getElem_singleton]at j2;subst j2;rw[h2]at e2
    cases e2
    cases e3
def PtEnd (w1 w w':World) (e:Ending) (v:Value) (css:List (List Value)) (l:List Nd):Prop:=∃v' css',e= .returned v'∧LaidR w1 w' v' css' l∧PutF w w' v v' css css'
structure PtO (w1 w5 wr:World) (v0:Value) (css0:List (List Value)) (A:Nat) (kids:List Tr) (Fin:List Nd) (i:Nat) (v kv:Value) (css:List (List Value)) (ns:List Nd) (ks:List Int):Prop where
  row:LaidR w1 wr v css ns
  far:PutF w5 wr v0 v css0 css
  krow:RowG w1 wr 3 1 (fun _ cs x=>cs= [.int .i64 x]) w1.heap.size kv (ks.map fun x=> [.int .i64 x]) ks (fun _=>False)
  knew:∀q,kv.ownBlock=some q→w5.heap.size≤q
  kap:∀q,kv.ownBlock=some q→v.ownBlock≠some q∧∀(j:Nat) (ds:List Value) (a:Value),css[j]? =some ds→ds[2]? =some a→a.ownBlock≠some q
  fin:Fin=ParseMath.laidL A (kids.drop i) (ns.modify A fun n=> { n with kids:=ks })
  lt:A<ns.length
  count:ks.length=i
  few:ns.length+sizeL (kids.drop i)≤50000
  le:i≤kids.length
theorem PtO.kid {w1 w5 wr w4:World} {v0 v kv kv':Value} {css0 css:List (List Value)} {A i:Nat} {kids:List Tr} {Fin ns:List Nd} {ks:List Int} {F':Nat→Prop} {x:Int} (h:PtO w1 w5 wr v0 css0 A kids Fin i v kv css ns ks)
    (hr:RowG w1 w4 3 1 (fun _ cs x=>cs= [.int .i64 x]) w1.heap.size kv' ((ks.map fun x=> [.int .i64 x])++ [[.int .i64 x]]) (ks++ [x]) F') (hF:∀k,F' k→False) (hk:Kept (fun k=>kv.ownBlock=some k) wr w4) (hat:kv'.ownBlock=kv.ownBlock∨∀k,kv'.ownBlock=some k→wr.heap.size≤k):
    LaidR w1 w4 v css ns∧PutF w5 w4 v0 v css0 css∧RowG w1 w4 3 1 (fun _ cs x=>cs= [.int .i64 x]) w1.heap.size kv' ((ks++ [x]).map fun x=> [.int .i64 x]) (ks++ [x]) (fun _=>False)∧(∀q,kv'.ownBlock=some q→w5.heap.size≤q∧q<w4.heap.size)∧
      ∀q,kv'.ownBlock=some q→v.ownBlock≠some q∧∀(j:Nat) (ds:List Value) (a:Value),css[j]? =some ds→ds[2]? =some a→a.ownBlock≠some q:=by
  have h0:=h.far.kept.size
  have hn:∀q,kv'.ownBlock=some q→w5.heap.size≤q:=fun q e=>by
    rcases hat with e2|e2
    · exact h.knew q (e2▸e)
    · have:=e2 q e;omega
  have hr':RowG w1 w4 3 1 (fun _ cs x=>cs= [.int .i64 x]) w1.heap.size kv' ((ks++ [x]).map fun x=> [.int .i64 x]) (ks++ [x]) (fun _=>False):=by
    rw[List.map_append];exact hr.nofar hF
  refine⟨h.row.kept hk (fun k e=>(h.krow.lt k (.inr e)).1) h.kap,⟨h.far.kept.trans hk fun i hi=> .inr (h.knew i hi),h.far.at_,h.far.old⟩,hr',fun q e=>⟨hn q e,(hr'.lt q (.inr e)).2⟩,fun q e=> ?_⟩
  rcases hat with e2|e2
  · exact h.kap q (e2▸e)
  · have hq:=e2 q e
    refine⟨fun e3=> ?_,fun j ds a e3 e4 e5=> ?_⟩
    · have:=(h.row.row.lt q (.inr e3)).2;omega
    · have:=(h.row.kids_lt e3 e4 e5).2;omega
theorem PtO.next {w1 w5 wr w4 w8:World} {v0 v kv kv' v8:Value} {css0 css css8:List (List Value)} {A i:Nat} {kids:List Tr} {Fin ns:List Nd} {ks:List Int} {t:Tr} (h:PtO w1 w5 wr v0 css0 A kids Fin i v kv css ns ks) (ht:kids[i]? =some t)
    (h4:LaidR w1 w4 v css ns∧PutF w5 w4 v0 v css0 css∧RowG w1 w4 3 1 (fun _ cs x=>cs= [.int .i64 x]) w1.heap.size kv' ((ks++ [(ns.length:Int)]).map fun x=> [.int .i64 x]) (ks++ [(ns.length:Int)]) (fun _=>False)∧(∀q,kv'.ownBlock=some q→w5.heap.size≤q∧q<w4.heap.size)∧
      ∀q,kv'.ownBlock=some q→v.ownBlock≠some q∧∀(j:Nat) (ds:List Value) (a:Value),css[j]? =some ds→ds[2]? =some a→a.ownBlock≠some q)
    (h8:LaidR w1 w8 v8 css8 (laidM t ns)) (hf:PutF w4 w8 v v8 css css8):PtO w1 w5 w8 v0 css0 A kids Fin (i+1) v8 kv' css8 (laidM t ns) (ks++ [(ns.length:Int)]):=by
  obtain⟨a1,a2,a3,a4,a5⟩:=h4
  have hd:kids.drop i=t::kids.drop (i+1):=by
    obtain⟨hi,e⟩:=List.getElem?_eq_some_iff.1 ht;rw[List.drop_eq_getElem_cons hi,e]
  have hfw:=h.few;rw[hd,sizeL]at hfw;refine⟨h8,a2.trans hf,a3.kept hf.kept fun k hk e=>hk.elim (fun h=>h.elim) fun e2=>(a5 k e2).1 e,fun q e=>(a4 q e).1,fun q e=>⟨fun e2=> ?_,fun j ds a e2 e3 e4=> ?_⟩,?_,?_,?_,?_,(List.getElem?_eq_some_iff.1 ht).1⟩
  · rcases hf.at_ with e3|e3
    · exact(a5 q e).1 (e3▸e2)
    · have:=e3 q e2
      have:=(a4 q e).2;omega
  · rcases hf.old j ds a q e2 e3 e4 with ⟨es,b1,b2⟩|b
    · exact(a5 q e).2 j es a b1 b2 e4
    · have:=(a4 q e).2
      omega
  · rw[h.fin,hd,laidL_go,List.length_modify,modify_two,laidM_modify t ns A _ h.lt]
    congr 1
  · rw[laidM_length]
    have:=h.lt;omega
  · rw[List.length_append,h.count];rfl
  · rw[laidM_length]
    omega
theorem PutF.last {w w5 wr:World} {v0 v kv u:Value} {css0 css:List (List Value)} {A g j:Nat} {cs:List Value} (hb:Below w.heap.size w w5) (h:PutF w5 wr v0 v css0 css) (hg:v.ownBlock=some g) (hkn:∀q,kv.ownBlock=some q→w5.heap.size≤q) (h1:css[A]? =some cs) (h2:2<cs.length):
    PutF w (wr.setCell ⟨g,j,none⟩ u) v0 v css0 (css.set A (cs.set 2 kv)):=by
  have h0:=hb.size;refine⟨((Kept.of_below hb).on h.kept).setCell (p:=⟨g,j,none⟩) ?_ _,h.at_.imp id fun f k e=>Nat.le_trans h0 (f k e),fun i ds a q e1 e2 e3=> ?_⟩
  · rcases h.at_ with e|e
    · exact .inl (e▸hg)
    · exact .inr (Nat.le_trans h0 (e g hg))
  · by_cases hi:A=i
    · subst hi
      rw[List.getElem?_set_self (List.getElem?_eq_some_iff.1 h1).1]at e1;simp only[Option.some.injEq]at e1;subst e1;rw[List.getElem?_set_self h2]at e2
      cases e2
      exact .inr (Nat.le_trans h0 (hkn q e3))
    · rw[List.getElem?_set_ne hi]at e1
      exact(h.old i ds a q e1 e2 e3).imp id fun f=>Nat.le_trans h0 f
set_option maxHeartbeats 8000000 in
set_option maxRecDepth 10000 in
theorem qput_any:∀(n:Nat) (t:Tr),sizeT t≤n→∀(w1 w:World) (c:List Value) (v:Value) (css:List (List Value)) (ns:List Nd),TrC w1 c t→LaidR w1 w v css ns→ns.length+sizeT t≤50000→
    Calls Tryz.prog 31 #[v,.agg c.toArray] w fun e w'=>PtEnd w1 w w' e v css (laidM t ns)
  |0,t,hn=>by have:=sizeT_pos t;omega
  |n+1,t,hn=>by
    intro w1 w c v css ns ht hl hm
    cases ht with
    |mk nd kids cs kp kc kss hnd hkl hkm hsp hsub=>
    obtain⟨hn0,wv,pv,av,rv,e,hw,hp,ha,hr⟩:=hnd;obtain⟨wp,wn,wc,rfl⟩:=wsAt_shape hw;obtain⟨pp,pn,pc,rfl⟩:=patsAt_shape hp;obtain⟨ap,an,ac,rfl⟩:=asAt_shape ha;obtain⟨rp,rn,rc,rfl⟩:=asAt_shape hr;subst e;obtain⟨vp,vc,hv⟩:=hl.row.shape;have hsz:sizeT (.mk nd kids)=1+sizeL kids:=(by rw[sizeT]);rw[hsz]at hn hm;have HS:=yH (And.intro hn hm);have HKIDS:=yH (And.intro hsp (And.intro hsub (And.intro hkl (qput_any n))));have HPN:=yH (show PN w1 [txt nd.op,txt nd.name,.slice none 0 0,.slice wp wn wc,.slice pp pn pc,.slice ap an ac,.slice rp rn rc] nd from⟨_,_,_,_,_,rfl,hw,hp,ha,hr⟩);have HN0:=yH hn0;have HB:=yH (below_new w);have HM:=yH (show laidM (.mk nd kids) ns=ParseMath.laidL ns.length kids (ns++ [nd])from by rw[laidM]);obtain⟨Fin,hFin⟩:∃Fin,laidM (.mk nd kids) ns=Fin:=⟨_,rfl⟩;rw[hFin]at HM ⊢;unfold txt at HPN ⊢;obtain⟨o1,ho1⟩:∃o:ByteArray,⟨nd.op.toArray⟩=o:=⟨_,rfl⟩;obtain⟨o2,ho2⟩:∃o:ByteArray,⟨nd.name.toArray⟩=o:=⟨_,rfl⟩;rw[ho1,ho2]at HPN ⊢;subst hv;obtain⟨A,hA⟩:∃A,ns.length=A:=⟨_,rfl⟩;have HL:=yH hl;have HA:=yH hA;rw[hA]at HM ⊢;obtain⟨K,hK⟩:∃K,kids.length=K:=⟨_,rfl⟩;have HK:=yH hK;rw[hK]
    have HCEL:=yH (show Cel 7 [.string o1,.string o2,.slice none 0 0,.slice wp wn wc,.slice pp pn pc,.slice ap an ac,.slice rp rn rc]from ⟨rfl,fun v hv=>by
      simp only[List.mem_cons,List.not_mem_nil,or_false]at hv
      rcases hv with rfl|rfl|rfl|rfl|rfl|rfl|rfl<;>rfl⟩)
    have hK0:(K:Int)≤2^63-1:=(by rw[←hK];unfold maxLen at hkm;omega);clear hn hm hsp hsub hkl hkm hw hp ha hr hn0 hFin ho1 ho2 hl hA hK hsz;obtain⟨c7,hc7⟩:∃c7,c7=([.string o1,.string o2,.slice none 0 0,.slice wp wn wc,.slice pp pn pc,.slice ap an ac,.slice rp rn rc]:List Value):=⟨_,rfl⟩;rw[←hc7]at HPN HCEL;have H2:=yH (show c7[2]? =some (.slice none 0 0)from by rw[hc7];rfl)
    have HBC:=yH (show ∀W:World,W.heap[w.heap.size]? =some (.cells (c7++ [Value.slice kp K kc]).toArray 74 (0,0))→W.cell? ⟨w.heap.size,7,none⟩=some (.slice kp K kc)∧W.rangeAt w.heap.size 0 c7 from fun W hW=>by
      have h7:=HCEL.out.1;refine⟨by rw[cell_plain hW,List.getElem?_toArray,List.getElem?_append_right (by omega),h7];rfl,fun j u hu=> ?_⟩;rw[Nat.zero_add,cell_plain hW,List.getElem?_toArray,List.getElem?_append_left (List.getElem?_eq_some_iff.1 hu).1]
      exact hu)
    rw[←hc7];clear hc7;obtain⟨arr,harr⟩:∃arr,(c7++ [Value.slice kp K kc]).toArray=arr:=⟨_,rfl⟩;rw[harr]at HBC ⊢;clear harr;have HR:=yH (show(w.alloc (.cells arr 74)).rangeAt w.heap.size 0 c7 from(HBC.out _ (heap_alloc_new w _)).2);have HW:=yH (And.intro (heap_alloc_new w (.cells arr 74)) (HB.out (.cells arr 74)));go_enter Tryz.func31,Tryz.ntmps31
    go_wp2_with (first
      |(refine wpList_load_mid (by rfl) 41 (.tmp 11) (by rfl) w.heap.size 0 (by rfl) c7 _ HR.out Tryz.underlying41 rfl (by rw[nd7_info,HCEL.out.1]) ?_;have hW5:=HW.out;obtain⟨w5,hw5⟩:∃w5,w.alloc (.cells arr 74)=w5:=⟨_,rfl⟩;rw[hw5]at hW5 ⊢;have HW5:=yH hW5;clear hW5 hw5)
      |(refine wpList_one elNd (by rfl) (.tmp 12) (by rfl) _ c7 rfl HCEL.out (by rfl) ?_)
      |(at_builtin;refine wpList_push elNd (by rfl) (.tmp 10) (.tmp 13) (by rfl) (C:=w5.heap.size) (y:=nd) (HL.out.new HW5.out.2).row HCEL.out (NewAt.of0 fun _ _=>HPN.out) (HL.out.new HW5.out.2).size (fun k hk=>((HL.out.new HW5.out.2).row.lt k (.inr hk)).2) (by have:=HS.out.2;omega) (by rw[HA.out];rfl) (by rfl) (HL.out.new HW5.out.2).size ?_;intro p6 c6 F6 w6 hr6 hF6 hat6 hk6;have HL6:=yH ((HL.out.new HW5.out.2).push hr6 (fun k hk=>(hF6 k hk).elim (fun h=>h) fun h=>by omega) hk6 hat6 H2.out HN0.out);have HF6:=yH (PutF.push (css:=css) hk6 hat6 H2.out);rw[HA.out]at HL6 HF6;rw[HA.out];clear hr6 hF6 hat6 hk6))
    have HVO:=yH (show ∀q,(Value.slice vp A vc).ownBlock=some q→q<w.heap.size from fun q e=>(HL.out.row.lt q (.inr (by rw[HA.out];exact e))).2)
    go_loopw [0,6,7] (fun v kv iv wr=> ∃(i:Nat) (css':List (List Value)) (ns':List Nd) (ks:List Int),iv= .int .i64 (i:Int)∧PtO w1 w5 wr (.slice vp A vc) css A kids Fin i v kv css' ns' ks) (fun _ _ iv _=>K-(intOf iv).toNat)
    case atStart=>
      have hk:=HK.out;refine⟨0,_,_,[],rfl,HL6.out,HF6.out,RowG.nil _ _ _ _ _ _,fun q e=>(by cases e),fun q e=>(by cases e),?_,by simp;have:=HA.out;omega,rfl,?_,by omega⟩
      · rw[HM.out]
        congr 1
        apply List.ext_getElem?;intro k;rw[get_mod]
        by_cases hk:A=k
        · subst hk
          rw[if_pos rfl,List.getElem?_append_right (by rw[HA.out];exact Nat.le_refl _),HA.out,Nat.sub_self];show some nd=some _;rw[←HN0.out]
        · rw[if_neg hk]
      · have:=HS.out.2;simp;omega
    case round=>
      obtain⟨i,css',ns',ks,rfl,hO⟩:=hrel;obtain⟨vp',vc',hv⟩:=hO.row.row.shape;obtain⟨kp',kc',hkv⟩:=hO.krow.shape;subst hv;subst hkv;have hbx:=HBC.out _ (hO.far.kept.heap HW5.out.1 (fun e=>by have:=HVO.out _ e;omega));have b7:=hbx.1;have HO:=yH hO
      by_cases hlt:i<K
      · have hlt0:(i:Int)<(K:Int):=by omega
        obtain⟨t,ht⟩:∃t,kids[i]? =some t:=⟨_,List.getElem?_eq_getElem (by rw[HK.out];exact hlt)⟩;obtain⟨ci,hci⟩:∃ci,kss[i]? =some ci:=⟨_,List.getElem?_eq_getElem (by rw[HKIDS.out.2.2.1,HK.out];exact hlt)⟩;obtain⟨b,o,hkp,hsp⟩:=(HKIDS.out.1 i ci hci).below hO.row.below;have hcelI:Cel 8 ci:=trC_cel (HKIDS.out.2.1 i ci t hci ht);have HCI:=yH hcelI;have hsz:=hO.row.size
        have HSP:=yH (show ∀W,LaidR w1 W (.slice vp' ns'.length vc') css' ns'→W.rangeAt b (o+i*8) ci from fun W hW j u hu=>by
          obtain⟨b',o',e1,e2⟩:=(HKIDS.out.1 i ci hci).below hW.below;rw[hkp]at e1;simp only[Option.some.injEq,Addr.mk.injEq,and_true]at e1;obtain⟨rfl,rfl⟩:=e1;have:=e2 j u hu
          rwa [Nat.add_assoc]at this ⊢)
        have HB7:=yH (show ∀W,Kept (fun k=>(Value.slice kp' ks.length kc').ownBlock=some k) wr W→W.cell? ⟨w.heap.size,7,none⟩=some (.slice kp K kc)from fun W hW=>(HBC.out _ (hW.heap (hO.far.kept.heap HW5.out.1 (fun e=>by have:=HVO.out _ e;omega)) (fun e=>by have h1:=hO.knew _ e;have h2:=(gS.1 HW5.out.1).1;omega))).1);have HI:=yH (And.intro hlt ht);have HREC:=yH (fun (W:World) (u:Value) (dss:List (List Value)) (ms:List Nd) (hl:LaidR w1 W u dss ms) (hm:ms.length+sizeT t≤50000)=>HKIDS.out.2.2.2 t (by have:=HS.out.1;have:=sizeL_get ht;omega) w1 W ci u dss ms (HKIDS.out.2.1 i ci t hci ht) hl hm)
        have HT:=yH (show ns'.length+sizeT t≤50000 from by
          have hf:=hO.few;obtain⟨hi,e⟩:=List.getElem?_eq_some_iff.1 ht;rw[List.drop_eq_getElem_cons hi,sizeL,e]at hf
          omega)
        have HNK:=yH (show ks.length≤100000 from by rw[hO.count];have:=hO.few;have:=sizeL_len kids;have:=HS.out.2;have:=HK.out;omega);obtain⟨N,hN⟩:∃N,ns'.length=N:=⟨_,rfl⟩;have HN:=yH hN;obtain⟨m,hm⟩:∃m,ks.length=m:=⟨_,rfl⟩;have HMM:=yH hm;subst hkp;rw[hN,hm];clear hO hsp hcelI hci ht hlt hN hm hbx
        go_wp2_with (first
          |(refine wpList_one elInt (by rfl) (.tmp 24) (by rfl) _ [.int .i64 (N:Int)] rfl ⟨rfl,by simp;rfl⟩ (by rfl) ?_)
          |(at_builtin;refine wpList_push elInt (by rfl) (.tmp 22) (.tmp 25) (by rfl) (w:=wr) (C:=wr.heap.size) (l:=ks) (cs:= [.int .i64 (N:Int)]) (y:=(N:Int)) HO.out.krow ⟨rfl,by simp;rfl⟩ (NewAt.of0 fun _ _=>rfl) hsz (fun k hk=>(HO.out.krow.lt k (.inr hk)).2) HNK.out (by rw[HMM.out];rfl) (by rfl) hsz ?_;intro p4 c4 F4 w4 hr4 hF4 hat4 hk4;have HKI:=yH (HO.out.kid hr4 (fun k hk=>(hF4 k hk).elim (fun h=>h) fun h=>by omega) hk4 hat4);have b8:=HB7.out _ hk4;rw[HMM.out]at HKI ⊢;clear hr4 hF4 hat4 hk4)
          |(refine wpList_load_mid (by rfl) 74 (.tmp 31) (by rfl) b (o+i*8) (by rfl) ci _ (HSP.out _ HKI.out.1) Tryz.underlying74 rfl (by rw[rtree_info,HCI.out.1]) ?_)
          |(go_at_call 31;refine(HREC.out _ _ _ _ (by have:=HKI.out.1;rw[HN.out]at this;exact this) HT.out).mono ?_;rintro en w8 ⟨v8,css8,rfl,hl8,hf8⟩;have HL8:=yH (And.intro hl8 hf8);clear hl8 hf8))
        go_roundw
        case rel=>
          have hN:=HN.out;subst hN;exact⟨i+1,css8,_,_,by go_num,HO.out.next HI.out.2 HKI.out HL8.out.1 HL8.out.2⟩
        case measure=>
          have:=HI.out.1;simp[intOf];omega
      · obtain rfl:i=K:=by have:=hO.le;have:=HK.out;omega
        have hf:=hO.fin;rw[List.drop_of_length_le (by rw[HK.out];exact Nat.le_refl _),ParseMath.laidL]at hf;obtain⟨nA,hnA⟩:∃n,ns'[A]? =some n:=⟨_,List.getElem?_eq_getElem hO.lt⟩;obtain⟨cA,hcA⟩:∃cA,css'[A]? =some cA:=⟨_,List.getElem?_eq_getElem (by rw[hO.row.row.len];exact hO.lt)⟩;obtain⟨g,cap,hv,hspA⟩:=hO.row.row.spot hcA;simp only[Value.slice.injEq,true_and]at hv;obtain⟨rfl,rfl⟩:=hv;have hcelA:=hO.row.row.each cA (List.mem_of_getElem? hcA);obtain⟨u2,hu2⟩:∃u,cA[2]? =some u:=⟨_,List.getElem?_eq_getElem (by rw[hcelA.1];decide)⟩;have x2:wr.cell? ⟨g,A*7+2,none⟩=some u2:=hspA 2 _ hu2;have f2:wr.frozen? ⟨g,A*7+2,none⟩=false:=ownsRow_free hO.row.row.own _;have HF:=yH (hO.row.setKids rfl hcA hnA hO.krow (fun _ h=>h) hO.kap);have HFF:=yH hf;have HCA:=yH (And.intro hcA hcelA.1);have hlt2:=hO.lt;obtain⟨N,hN⟩:∃N,ns'.length=N:=⟨_,rfl⟩;have HN:=yH hN;have hAN0:(A:Int)<(N:Int):=(by omega);rw[hN];clear hO hf hlt hlt2 hN hnA hcA hspA hcelA hu2 hbx;go_wp2_with fail;go_ret;have HLA:=yH (PutF.last (j:=A*7+2) (u:= .slice kp' ks.length kc') HW5.out.2 HO.out.far rfl HO.out.knew HCA.out.1 (by rw[HCA.out.2];decide));rw[HN.out]at HF HLA;exact⟨.slice (some ⟨g,0,none⟩) N vc',_,rfl,by rw[HFF.out];exact HF.out,HLA.out⟩
end Go.Proofs.YtcpmjkefbjbhpaaGreatDoor
