/-
  Proved: contracts of functions, plain facts. Conditions: as each says.
-/
import Derived.Test.YtcpmjkefbjbhpaaGreatDoorSw01
import Derived.Test.YtcpmjkefbjbhpaaGreatDoorSw00
import Derived.Test.YtcpmjkefbjbhpaaGreatDoorSw25
import Derived.Test.YtcpmjkefbjbhpaaGreatDoorSw26
import Derived.Test.YtcpmjkefbjbhpaaGreatDoorSw20
import Derived.Test.YtcpmjkefbjbhpaaGreatDoorSw28
namespace Go.Proofs.YtcpmjkefbjbhpaaGreatDoor.ShowMath
open Go Go.Lib GlyphMath LexMath TreeMath
theorem escT_high:∀(l r:List UInt8),(∀b∈l,128≤b.toNat)→escT (l++r)=l++escT r
  | [],_,_=>rfl
  |c::l,r,h=>by
    have h0:=h c (by simp);have n1:¬(c=34∨c=36∨c=92):=(by rintro(rfl|rfl|rfl)<;>revert h0<;>decide);rw[List.cons_append,escT,if_neg n1,escT_high l r fun b hb=>h b (List.mem_cons_of_mem _ hb)];rfl
theorem ofNat_hi {n:Nat} (h0:128≤n) (h1:n<256):128≤(UInt8.ofNat n).toNat:=by rw[byte_of n h1];exact h0
theorem eb_high {r:Nat} (h:128≤r) (g:GoodL r):∀b∈eb r,128≤b.toNat:=by
  obtain⟨-,h1, -⟩:=g;unfold eb;rw[if_neg (by omega)];intro b hb
  split at hb
  · simp only[List.mem_cons,List.not_mem_nil,or_false]at hb
    rcases hb with rfl|rfl<;>exact ofNat_hi (by omega) (by omega)
  · split at hb
    · simp only[List.mem_cons,List.not_mem_nil,or_false]at hb
      rcases hb with rfl|rfl|rfl<;>exact ofNat_hi (by omega) (by omega)
    · simp only[List.mem_cons,List.not_mem_nil,or_false]at hb
      rcases hb with rfl|rfl|rfl|rfl<;>exact ofNat_hi (by omega) (by omega)
def escL:List Nat→List UInt8
  | []=> []
  |c::r=>(if acts c then [92]else [])++(eb c++escL r)
theorem escT_eb {c:Nat} (g:GoodL c) (r:List UInt8):escT (eb c++r)=(if acts c then [92]else [])++(eb c++escT r):=by
  by_cases h:c<128
  · have e:eb c= [UInt8.ofNat c]:=by unfold eb;rw[if_pos h]
    rw[e,List.singleton_append,escT]
    have ht:∀k:Nat,k<128→(UInt8.ofNat c=UInt8.ofNat k↔c=k):=fun k hk=>by
      refine⟨fun e=> ?_,fun e=>by rw[e]⟩;have:=congrArg UInt8.toNat e
      rwa [byte_of c (by omega),byte_of k (by omega)]at this
    have h1:(UInt8.ofNat c=34∨UInt8.ofNat c=36∨UInt8.ofNat c=92)↔acts c=true:=by
      have a1:=ht 34 (by decide);have a2:=ht 36 (by decide);have a3:=ht 92 (by decide);unfold acts;simp only[Bool.or_eq_true,beq_iff_eq];rw[show (34:UInt8)=UInt8.ofNat 34 from rfl,show(36:UInt8)=UInt8.ofNat 36 from rfl,show(92:UInt8)=UInt8.ofNat 92 from rfl,a1,a2,a3];exact or_assoc.symm
    by_cases ha:acts c=true
    · rw[if_pos (h1.2 ha),if_pos ha];rfl
    · rw[if_neg fun x=>ha (h1.1 x),if_neg ha];rfl
  · have h1:acts c=false:=by
      unfold acts;simp only[Bool.or_eq_false_iff,beq_eq_false_iff_ne];omega
    rw[h1,escT_high _ _ (eb_high (by omega) g)];rfl
theorem escL_enc:∀l:List Nat,(∀c∈l,GoodL c)→escT (enc l)=escL l
  | [],_=>rfl
  |c::r,h=>by
    rw[enc,escT_eb (h c (by simp)),escL_enc r fun x hx=>h x (List.mem_cons_of_mem _ hx)];rfl
theorem escT_plain:∀l cs:List UInt8,cs.contains 34=true→cs.contains 36=true→cs.contains 92=true→anyIn l cs=false→escT l=l
  | [],_,_,_,_,_=>rfl
  |c::r,cs,h1,h2,h3,h=>by
    unfold anyIn at h;rw[List.any_cons,Bool.or_eq_false_iff]at h
    have n1:¬(c=34∨c=36∨c=92):=by
      rintro(rfl|rfl|rfl)
      · rw[h1]at h;exact Bool.noConfusion h.1
      · rw[h2]at h;exact Bool.noConfusion h.1
      · rw[h3]at h;exact Bool.noConfusion h.1
    rw[escT,if_neg n1,escT_plain r cs h1 h2 h3 h.2]
theorem side_all {f:Pt→Bool} :∀(ps:List Pt) (a:Option Pt),sideT f a ps=true→∀q∈ps,f q=true
  | [],_,_,_,h=>by cases h
  |p::r,a,h,q,hq=>by
    rw[sideT,Bool.and_eq_true,Bool.and_eq_true]at h
    rcases List.mem_cons.1 hq with rfl|hq
    · exact h.1
    · exact side_all r (some p) h.2.2 q hq
def RowOk (k:Nat) (ps:List Pt):Prop:=ps= []∨rowT k ps=true
theorem row_parts {k:Nat} {ps:List Pt} (h:RowOk (k+1) ps):∀q∈ps,partT (rowT k) (decide (k<20)) q=true:=by
  rcases h with rfl|h
  · intro q hq;cases hq
  · exact side_all ps none h
theorem row_zero {ps:List Pt} (h:RowOk 0 ps):ps= []:=h.resolve_right (by simp[rowT])
theorem part_word {k:Nat} {wi:Bool} {q:Pt} (h:partT (rowT k) wi q=true):RowOk k q.word:=by
  unfold partT at h
  split at h
  · rw[Bool.and_eq_true,Bool.and_eq_true]at h
    exact .inl (List.isEmpty_iff.1 h.2.1)
  · split at h
    · unfold varT at h
      split at h
      · split at h
        · exact .inl (List.isEmpty_iff.1 h)
        · split at h
          · rw[Bool.and_eq_true]at h;exact .inl (List.isEmpty_iff.1 h.2)
          · split at h
            · rw[Bool.and_eq_true]at h;exact .inr h.2
            · split at h
              · exact .inr h
              · split at h
                · exact .inr h
                · exact Bool.noConfusion h
      · exact Bool.noConfusion h
    · split at h
      · rw[Bool.and_eq_true,Bool.and_eq_true]at h
        exact .inl (List.isEmpty_iff.1 h.2.1)
      · exact Bool.noConfusion h
theorem part_kind {row:List Pt→Bool} {wi:Bool} {q:Pt} (h:partT row wi q=true):q.kind=1∧litT wi q=true∨q.kind=2∨q.kind=3:=by
  unfold partT at h
  split at h
  · rw[Bool.and_eq_true,Bool.and_eq_true]at h
    rename_i e;exact .inl ⟨e,h.2.2⟩
  · split at h
    · rename_i e;exact .inr (.inl e)
    · split at h
      · rename_i e;exact .inr (.inr e)
      · exact Bool.noConfusion h
theorem lit_text {wi:Bool} {q:Pt} (h:litT wi q=true):isText (T q.text)=true∧(q.q=false→escT q.text=q.text):=by
  unfold litT at h;rw[Bool.and_eq_true]at h;refine⟨h.1,fun e=> ?_⟩;have h2:=h.2;rw[e,Bool.false_or,Bool.and_eq_true,Bool.not_eq_true']at h2
  cases wi
  · exact escT_plain _ metaB (by decide) (by decide) (by decide) (by simpa using h2.2)
  · exact escT_plain _ metaW (by decide) (by decide) (by decide) (by simpa using h2.2)
theorem dep_row:∀(k:Nat) (ps:List Pt),RowOk k ps→depS k ps=true
  |0,ps,h=>by rw[row_zero h];rfl
  |k+1,ps,h=>by
    rw[depS,List.all_eq_true];exact fun q hq=>dep_row k q.word (part_word (row_parts h q hq))
theorem dep_up:∀(k:Nat) (ps:List Pt),depS k ps=true→depS (k+1) ps=true
  |0,ps,h=>by
    obtain rfl:ps= []:=(by simpa [depS]using h);rfl
  |k+1,ps,h=>by
    rw[depS,List.all_eq_true]at h ⊢;exact fun q hq=>dep_up k q.word (h q hq)
theorem partS_row {r s:List Pt→List UInt8} {p:Pt} (h:r p.word=s p.word):partS r p=partS s p:=by
  unfold partS bareS;rw[h]
theorem row_up:∀(k:Nat) (ps:List Pt),depS k ps=true→rowS (k+1) ps=rowS k ps
  |0,ps,h=>by
    obtain rfl:ps= []:=(by simpa [depS]using h);rfl
  |k+1,ps,h=>by
    rw[depS,List.all_eq_true]at h;have e:∀q∈ps,partS (rowS (k+1)) q=partS (rowS k) q:=fun q hq=>partS_row (row_up k q.word (h q hq));show(ps.map (partS (rowS (k+1)))).flatten=(ps.map (partS (rowS k))).flatten;rw[List.map_congr_left e]
theorem word_row {ps:List Pt} (h:wordT ps=true):RowOk 21 ps∧depS 22 ps=true∧wordS ps=rowS 21 ps:=by
  unfold wordT at h;rw[Bool.and_eq_true]at h;have h1:RowOk 21 ps:= .inr h.2;have h2:=dep_row 21 ps h1;exact⟨h1,dep_up 21 ps h2,row_up 21 ps h2⟩
def OkP (ns:List Nd):Nat→Nat→Prop
  |0,_=>False
  |f+1,i=> ∃n,ns[i]? =some n∧fitsT n=true∧spellsT n=true∧∀k∈n.kids,0≤k∧OkP ns f k.toNat
theorem kids_ok {ns:List Nd} {f:Nat} (ih:∀k next m,walkT ns f k next=some m→k=(next:Int)∧OkP ns f next) {n:Nd} :∀(l:List Int) (i next m:Nat),kidsT (walkT ns f) ns n i l next=some m→∀k∈l,0≤k∧OkP ns f k.toNat
  | [],_,_,_,_,_,h=>by cases h
  |x::r,i,next,m,h,k,hk=>by
    rw[kidsT]at h
    cases hw:walkT ns f x next with
    |none=>rw[hw]at h;cases h
    |some m'=>
      rw[hw]at h;obtain⟨rfl,hx⟩:=ih x next m' hw;simp only[Int.toNat_natCast]at h
      cases hn:ns[next]? with
      |none=>rw[hn]at h;cases h
      |some kd=>
        rw[hn]at h;simp only at h
        split at h
        · rcases List.mem_cons.1 hk with rfl|hk
          · exact⟨by omega,by simpa using hx⟩
          · exact kids_ok ih r (i+1) m' m h k hk
        · cases h
theorem walk_ok {ns:List Nd} :∀(f:Nat) (k:Int) (next m:Nat),walkT ns f k next=some m→k=(next:Int)∧OkP ns f next
  |0,_,_,_,h=>by rw[walkT]at h;cases h
  |f+1,k,next,m,h=>by
    rw[walkT]at h
    split at h
    · rename_i hk
      refine⟨hk,?_⟩
      cases hn:ns[next]? with
      |none=>rw[hn]at h;cases h
      |some n=>
        rw[hn]at h;simp only at h
        split at h
        · rename_i hf
          rw[Bool.and_eq_true]at hf;exact⟨n,hn,hf.1,hf.2,kids_ok (walk_ok f) n.kids 0 (next+1) m h⟩
        · cases h
    · cases h
theorem is_ok {ns:List Nd} {root:Int} (h:isT ns root=true):root=0∧OkP ns ns.length 0:=by
  unfold isT at h;rw[Bool.and_eq_true,beq_iff_eq]at h;exact walk_ok _ _ _ _ h.2
structure NodeOk (n:Nd):Prop where
  words:∀x∈n.words,wordT x=true
  pats:∀p∈n.pats,p≠ []∧∀x∈p,wordT x=true
  assigns:∀a∈n.assigns,wordT a.2=true
  redirs:∀a∈n.redirs,wordT a.2=true
theorem bare_word {x:List Pt} (h:bareW x=true):wordT x=true:=by
  unfold bareW at h;rw[Bool.and_eq_true]at h;exact h.1
theorem node_ok {n:Nd} (h:spellsT n=true):NodeOk n:=by
  unfold spellsT at h;simp only[Bool.and_eq_true,List.all_eq_true]at h;obtain⟨-, -,h1,h2,h3,h4⟩:=h;refine⟨fun x hx=>bare_word (h1 x hx),fun p hp=> ?_,fun a ha=> ?_,fun a ha=> ?_⟩
  · have:=h2 p hp
    unfold patT at this;simp only[Bool.and_eq_true,List.all_eq_true,Bool.not_eq_true']at this;exact⟨fun e=>by rw[e]at this;exact Bool.noConfusion this.1,fun x hx=>bare_word (this.2 x hx)⟩
  · have:=h3 a ha
    unfold assignT at this;rw[Bool.and_eq_true]at this;exact this.2
  · have:=h4 a ha
    unfold redirT at this;rw[Bool.and_eq_true]at this;exact bare_word this.2
end Go.Proofs.YtcpmjkefbjbhpaaGreatDoor.ShowMath
namespace Go.Proofs.YtcpmjkefbjbhpaaGreatDoor
open Go Go.RowKit GlyphMath LexMath TreeMath
theorem WordV.ps {w:World} {F:Nat→Prop} {v:Value} {ps:List Pt} (h:WordV w F v ps):PsAt w v ps:=by
  induction h with
  |row v ps vs hown hl hF hs ih=>
    rcases hown.2 with ⟨rfl,h0⟩|⟨g,cap,cur,rfl, -, -,hle,hm, -⟩
    · have hp:ps= []:=List.eq_nil_of_length_eq_zero h0
      subst hp;exact PsAt.nil w 0
    · have hc:=hown.cellAt
      refine .mk (some ⟨g,0,none⟩) cap ps vs hl.symm (by omega) (fun k q u hq hu=>⟨g,0,rfl,fun i x hx=> ?_⟩) ih;have hi:i<5:=(List.getElem?_eq_some_iff.1 hx).1;have hk:=(List.getElem?_eq_some_iff.1 hq).1;have h5:=(hc (k*5+i) (by omega)).trans ((rowCells_get ps vs k q u hq hu hl i hi).trans hx)
      simpa [Nat.add_assoc]using h5
end Go.Proofs.YtcpmjkefbjbhpaaGreatDoor
namespace Go.Proofs.YtcpmjkefbjbhpaaGreatDoor
open Go Go.RowKit GlyphMath LexMath TreeMath ParseMath
theorem ret_redir2 {fn:Func} {p u:Tmp} (hf:fn.results= #[.cell p 125,.tmp u]) {tmps:Array Value} {k:Nat} {a b:Value} {x:Value} {w:World} {t:TypeId} {fr:Nat×Nat} (h:w.heap[k]? =some (.cells #[a,b] t fr)) (h2:tmps.getD p undef= .pointer (some ⟨k,0,none⟩)) (h3:tmps.getD u undef=x):
    (results fn tmps).run Tryz.prog w= .ok (.tuple #[.agg #[a,b],x]) w:=by
  rw[results_cell_tmp hf,h2,h3];have:(loadVar 125 ⟨k,0,none⟩).run Tryz.prog w= .ok (.agg #[a,b]) w:=run_loadVar_row (P:=Tryz.prog) w k t 125 _ fr _ h Tryz.underlying125 rfl redir_info;simp[asAddr,Result.andThen,this]
def RdEnd (w0 w w':World) (e:Ending) (X:Nat) (S:PS):Prop:=∃p k,e= .returned (.tuple #[.agg #[.string (T (redirM S).1.1),.slice p (redirM S).1.2.length k],.bool true])∧PsAt w0 (.slice p (redirM S).1.2.length k) (redirM S).1.2∧QStep w0 w w' X (redirM S).2
theorem two_all' {a b:Value} (ha:a.oneCell'=true) (hb:b.oneCell'=true):(#[a,b]:Array Value).all (fun x=>x.oneCell')=true:=by simp[ha,hb]
set_option maxHeartbeats 4000000 in
set_option maxRecDepth 4000 in
set_option linter.unusedSimpArgs false in
theorem qredir_lt {w0 w:World} {X:Nat} {S:PS} (h:Rr w0 w X S) (h0:S.is [60]=true):
    Calls Tryz.prog 179 #[.pointer (some ⟨X,0,none⟩)] w fun e w'=>RdEnd w0 w w' e X S:=by
  have HX:=yH h.base;have HP:=yH (fun o=>h.new (below_new w o));have HZ:=yH (heap_alloc_new w);have HB:=yH (below_new w);have HN:=yH (fun W (hW:Rr w0 W X S)=>qnow_any hW);have HE0:=yH (show ∀W,Rr w0 W X S→_ from fun W hW=>by have:=qeat_any hW (s:= [60]) (by decide);unfold PS.takes at this;rw[h0,if_pos rfl]at this;exact this);unfold RdEnd;have HM:=yH (show redirM S=((S.hd.text,S.take.word.1),S.take.word.2)from rfl);rw[HM.out];dsimp only;obtain⟨t,ht⟩:∃t,S.hd=t:=⟨_,rfl⟩;rw[ht]at HN ⊢;unfold tkN at HN;obtain⟨kd,hkd⟩:∃x,t.kind=x:=⟨_,rfl⟩;obtain⟨tx,htx⟩:∃x,T t.text=x:=⟨_,rfl⟩;obtain⟨wl,hwl⟩:∃x,t.word.length=x:=⟨_,rfl⟩;simp only[hkd,htx,hwl]at HN;rw[htx];obtain⟨SA,hSA⟩:∃SA,S.take=SA:=⟨_,rfl⟩;rw[hSA]at HE0 ⊢;have HAN:=yH (fun W (hW:Rr w0 W X SA)=>qany_any hW);obtain⟨wn,hwn⟩:∃x,SA.word.1.length=x:=⟨_,rfl⟩;rw[hwn]at HAN ⊢;clear h ht hkd htx hwl hSA hwn HM h0;go_enter Tryz.func179,Tryz.ntmps179
  go_wp2_with (first
    |(go_at_call 29;refine(HN.out _ (HP.out _)).mono ?_;rintro en w1 ⟨p,k,a,rfl, -,hb⟩;have hz1:=(hb.block w.heap.size (by simp)).trans (HZ.out _);have HW1:=yH (And.intro (((HP.out _).new hb).new (below_new w1 (.cells #[.int .i64 kd,.string tx,.slice p wl k,.int .i64 a] 53))) (And.intro (((HB.out _).trans (hb.mono (HB.out _).size)).trans ((below_new w1 (.cells #[.int .i64 kd,.string tx,.slice p wl k,.int .i64 a] 53)).mono (by have:=hb.size;simp at this;omega))) (And.intro ((Below.heap_alloc w1 (.cells #[.int .i64 kd,.string tx,.slice p wl k,.int .i64 a] 53) _ (gS.1 hz1).1).trans hz1) (heap_alloc_new w1 (.cells #[.int .i64 kd,.string tx,.slice p wl k,.int .i64 a] 53)))));clear hb hz1)
    |(go_at_call 113;(with_reducible refine(HE0.out _ HW1.out.1).mono ?_);rintro en v0 ⟨rfl,hs⟩;(have HV0:=yH (And.intro hs.1 (And.intro ((Kept.of_below HW1.out.2.1).on hs.2) (And.intro (hs.2.heap HW1.out.2.2.1 (by have:=HX.out;omega)) (hs.2.heap HW1.out.2.2.2 (by have:=HX.out;have:=(gS.1 HW1.out.2.2.1).1;simp at this;omega))))));clear hs))
  obtain⟨hr,hk,hz,hb⟩:=HV0.out;have HV:=yH (And.intro hr (And.intro hk hz));have hX1:=HX.out
  have hXB:w1.heap.size≠X:=fun e=>by
    have:=(gS.1 HW1.out.2.2.1).1;have h3:=HW1.out.2.1.size;simp at this;omega
  obtain⟨Bx,hBx⟩:∃Bx,w1.heap.size=Bx:=⟨_,rfl⟩;rw[hBx]at hb hXB ⊢;have HXB:=yH hXB;clear hr hk hz hX1 hXB hBx;refine regionL (S:=(fun W=>W.heap[Bx]? =some (.cells #[.int .i64 kd,.string tx,.slice p wl k,.int .i64 a] 53 (0,0)))) (L:=5) (by kernel_rfl) hb (fun hHeld=> ?_);refine tkL 0 21 rfl rfl ?_ ?_ ?_;rotate_left
  · intro _ _;go_simp<;>(with_reducible rfl)
  simp only[pS];refine takeL (i:=1) (k:=22) (v:= .string tx) rfl (by kernel_rfl) (by kernel_rfl) (by kernel_rfl) (by kernel_rfl) (fun _ _ _ h=>h) (by kernel_rfl) (by kernel_rfl) (by kernel_rfl) (by rfl) ?_ (by assumption) ?_
  · intro w hSw;have d1:=cell_plain hSw 1;go_simp
  simp only[pS];refine tkL 2 23 rfl rfl ?_ ?_ ?_;rotate_left
  · intro _ _;go_simp<;>(with_reducible rfl)
  simp only[pS];refine nxL 3 rfl (fun K hK=> ?_);go_simp
  go_wp2_with (go_at_call 212;refine(HAN.out _ (HV.out.1.kept (D:=fun _=>False) (Kept.of_below (below_drewA v0)) (fun h=>h) (fun _ h=>h.elim))).mono ?_;rintro en w5 ⟨p5,k5,rfl,hu,hs⟩;have HS5:=yH (And.intro hu (And.intro hs (And.intro (hs.2.heap hHeld HXB.out) (hs.2.heap HV.out.2.2 (by have:=HX.out;omega)))));clear hu hs)
  refine hK.out _ _ ?_ ?_
  · exact .inr HS5.out.2.2.1
  clear hK K;refine nxL 4 rfl (fun K hK=> ?_);go_simp;refine hK.out _ _ ?_ ?_
  · exact .inr HS5.out.2.2.1
  clear hK K
  try simp only[Act.put,List.getElem_toArray,List.getElem_cons_succ,List.getElem_cons_zero,pS]
  refine nxL 5 rfl (fun K hK=> ?_);refine wp_store_row 125 (.tmp 2) (.tmp 25) rfl w.heap.size #[.string tx,.slice p5 wn k5] rfl rfl 125 #[.string ⟨#[]⟩,.slice none 0 0] HS5.out.2.2.2 (by rw[redir_info];rfl) rfl (two_all' rfl rfl) ?_;refine hK.out _ _ ?_ ?_
  · exact .inl (by kernel_rfl)
  clear hK K
  try simp only[Act.put,List.getElem_toArray,List.getElem_cons_succ,List.getElem_cons_zero,pS]
  refine nxL 6 rfl (fun K hK=> ?_);go_simp;refine hK.out _ _ ?_ ?_
  · exact .inl (by kernel_rfl)
  clear hK K
  try simp only[Act.put,List.getElem_toArray,List.getElem_cons_succ,List.getElem_cons_zero]
  refine doneL (by kernel_rfl) ?_ _
  (try simp only[Exit.then])
  go_wp2_with fail
  (try simp only[Exit.inBlock,Exit.then])
  obtain⟨hu,hs, -,hz⟩:=HS5.out;refine bodyPost_ret (ret_redir2 rfl (setRow_heap w5 w.heap.size _ _ 125 (0,0) hz) rfl rfl) rfl ?_;have hk:=kept_row0 w5 w.heap.size #[.string tx,.slice p5 wn k5];have hx:=HX.out;exact⟨p5,k5,rfl,hu,hs.1.kept hk (by omega) (fun i hi=>by omega),(((HV.out.2.1.on (Kept.of_below (below_drewA v0))).on hs.2).trans hk fun i hi=> .inr (by omega))⟩
set_option maxHeartbeats 4000000 in
set_option maxRecDepth 4000 in
set_option linter.unusedSimpArgs false in
theorem qredir_gt {w0 w:World} {X:Nat} {S:PS} (h:Rr w0 w X S) (h0:S.is [60]=false) (h1:S.is [62]=true):
    Calls Tryz.prog 179 #[.pointer (some ⟨X,0,none⟩)] w fun e w'=>RdEnd w0 w w' e X S:=by
  have HX:=yH h.base;have HP:=yH (fun o=>h.new (below_new w o));have HZ:=yH (heap_alloc_new w);have HB:=yH (below_new w);have HN:=yH (fun W (hW:Rr w0 W X S)=>qnow_any hW);have HE0:=yH (show ∀W,Rr w0 W X S→_ from fun W hW=>by have:=qeat_any hW (s:= [60]) (by decide);unfold PS.takes at this;rw[h0,if_neg (by decide)]at this;exact this);have HE1:=yH (show ∀W,Rr w0 W X S→_ from fun W hW=>by have:=qeat_any hW (s:= [62]) (by decide);unfold PS.takes at this;rw[h1,if_pos rfl]at this;exact this);unfold RdEnd;have HM:=yH (show redirM S=((S.hd.text,S.take.word.1),S.take.word.2)from rfl);rw[HM.out];dsimp only;obtain⟨t,ht⟩:∃t,S.hd=t:=⟨_,rfl⟩;rw[ht]at HN ⊢;unfold tkN at HN;obtain⟨kd,hkd⟩:∃x,t.kind=x:=⟨_,rfl⟩;obtain⟨tx,htx⟩:∃x,T t.text=x:=⟨_,rfl⟩;obtain⟨wl,hwl⟩:∃x,t.word.length=x:=⟨_,rfl⟩;simp only[hkd,htx,hwl]at HN;rw[htx];obtain⟨SA,hSA⟩:∃SA,S.take=SA:=⟨_,rfl⟩;rw[hSA]at HE1 ⊢;have HAN:=yH (fun W (hW:Rr w0 W X SA)=>qany_any hW);obtain⟨wn,hwn⟩:∃x,SA.word.1.length=x:=⟨_,rfl⟩;rw[hwn]at HAN ⊢;clear h ht hkd htx hwl hSA hwn HM h0 h1;go_enter Tryz.func179,Tryz.ntmps179
  go_wp2_with (first
    |(go_at_call 29;refine(HN.out _ (HP.out _)).mono ?_;rintro en w1 ⟨p,k,a,rfl, -,hb⟩;have hz1:=(hb.block w.heap.size (by simp)).trans (HZ.out _);have HW1:=yH (And.intro (((HP.out _).new hb).new (below_new w1 (.cells #[.int .i64 kd,.string tx,.slice p wl k,.int .i64 a] 53))) (And.intro (((HB.out _).trans (hb.mono (HB.out _).size)).trans ((below_new w1 (.cells #[.int .i64 kd,.string tx,.slice p wl k,.int .i64 a] 53)).mono (by have:=hb.size;simp at this;omega))) (And.intro ((Below.heap_alloc w1 (.cells #[.int .i64 kd,.string tx,.slice p wl k,.int .i64 a] 53) _ (gS.1 hz1).1).trans hz1) (heap_alloc_new w1 (.cells #[.int .i64 kd,.string tx,.slice p wl k,.int .i64 a] 53)))));clear hb hz1)
    |(go_at_call 113;(with_reducible refine(HE0.out _ HW1.out.1).mono ?_);rintro en v0 ⟨rfl,hs⟩;(have HV0:=yH (And.intro hs.1 (And.intro ((Kept.of_below HW1.out.2.1).on hs.2) (And.intro (hs.2.heap HW1.out.2.2.1 (by have:=HX.out;omega)) (hs.2.heap HW1.out.2.2.2 (by have:=HX.out;have:=(gS.1 HW1.out.2.2.1).1;simp at this;omega))))));clear hs)
    |(go_at_call 113;(with_reducible refine(HE1.out _ HV0.out.1).mono ?_);rintro en v1 ⟨rfl,hs⟩;(have HV1:=yH (And.intro hs.1 (And.intro (HV0.out.2.1.on hs.2) (And.intro (hs.2.heap HV0.out.2.2.1 (by have:=HX.out;omega)) (hs.2.heap HV0.out.2.2.2 (by have:=HX.out;have:=(gS.1 HW1.out.2.2.1).1;simp at this;omega))))));clear hs))
  obtain⟨hr,hk,hz,hb⟩:=HV1.out;have HV:=yH (And.intro hr (And.intro hk hz));have hX1:=HX.out
  have hXB:w1.heap.size≠X:=fun e=>by
    have:=(gS.1 HW1.out.2.2.1).1;have h3:=HW1.out.2.1.size;simp at this;omega
  obtain⟨Bx,hBx⟩:∃Bx,w1.heap.size=Bx:=⟨_,rfl⟩;rw[hBx]at hb hXB ⊢;have HXB:=yH hXB;clear hr hk hz hX1 hXB hBx;refine regionL (S:=(fun W=>W.heap[Bx]? =some (.cells #[.int .i64 kd,.string tx,.slice p wl k,.int .i64 a] 53 (0,0)))) (L:=5) (by kernel_rfl) hb (fun hHeld=> ?_);refine tkL 0 21 rfl rfl ?_ ?_ ?_;rotate_left
  · intro _ _;go_simp<;>(with_reducible rfl)
  simp only[pS];refine takeL (i:=1) (k:=22) (v:= .string tx) rfl (by kernel_rfl) (by kernel_rfl) (by kernel_rfl) (by kernel_rfl) (fun _ _ _ h=>h) (by kernel_rfl) (by kernel_rfl) (by kernel_rfl) (by rfl) ?_ (by assumption) ?_
  · intro w hSw;have d1:=cell_plain hSw 1;go_simp
  simp only[pS];refine tkL 2 23 rfl rfl ?_ ?_ ?_;rotate_left
  · intro _ _;go_simp<;>(with_reducible rfl)
  simp only[pS];refine nxL 3 rfl (fun K hK=> ?_);go_simp
  go_wp2_with (go_at_call 212;refine(HAN.out _ (HV.out.1.kept (D:=fun _=>False) (Kept.of_below (below_drewA v1)) (fun h=>h) (fun _ h=>h.elim))).mono ?_;rintro en w5 ⟨p5,k5,rfl,hu,hs⟩;have HS5:=yH (And.intro hu (And.intro hs (And.intro (hs.2.heap hHeld HXB.out) (hs.2.heap HV.out.2.2 (by have:=HX.out;omega)))));clear hu hs)
  refine hK.out _ _ ?_ ?_
  · exact .inr HS5.out.2.2.1
  clear hK K;refine nxL 4 rfl (fun K hK=> ?_);go_simp;refine hK.out _ _ ?_ ?_
  · exact .inr HS5.out.2.2.1
  clear hK K
  try simp only[Act.put,List.getElem_toArray,List.getElem_cons_succ,List.getElem_cons_zero,pS]
  refine nxL 5 rfl (fun K hK=> ?_);refine wp_store_row 125 (.tmp 2) (.tmp 25) rfl w.heap.size #[.string tx,.slice p5 wn k5] rfl rfl 125 #[.string ⟨#[]⟩,.slice none 0 0] HS5.out.2.2.2 (by rw[redir_info];rfl) rfl (two_all' rfl rfl) ?_;refine hK.out _ _ ?_ ?_
  · exact .inl (by kernel_rfl)
  clear hK K
  try simp only[Act.put,List.getElem_toArray,List.getElem_cons_succ,List.getElem_cons_zero,pS]
  refine nxL 6 rfl (fun K hK=> ?_);go_simp;refine hK.out _ _ ?_ ?_
  · exact .inl (by kernel_rfl)
  clear hK K
  try simp only[Act.put,List.getElem_toArray,List.getElem_cons_succ,List.getElem_cons_zero]
  refine doneL (by kernel_rfl) ?_ _
  (try simp only[Exit.then])
  go_wp2_with fail
  (try simp only[Exit.inBlock,Exit.then])
  obtain⟨hu,hs, -,hz⟩:=HS5.out;refine bodyPost_ret (ret_redir2 rfl (setRow_heap w5 w.heap.size _ _ 125 (0,0) hz) rfl rfl) rfl ?_;have hk:=kept_row0 w5 w.heap.size #[.string tx,.slice p5 wn k5];have hx:=HX.out;exact⟨p5,k5,rfl,hu,hs.1.kept hk (by omega) (fun i hi=>by omega),(((HV.out.2.1.on (Kept.of_below (below_drewA v1))).on hs.2).trans hk fun i hi=> .inr (by omega))⟩
set_option maxHeartbeats 4000000 in
set_option maxRecDepth 4000 in
set_option linter.unusedSimpArgs false in
theorem qredir_gg {w0 w:World} {X:Nat} {S:PS} (h:Rr w0 w X S) (h0:S.is [60]=false) (h1:S.is [62]=false) (h2:S.is [62,62]=true):
    Calls Tryz.prog 179 #[.pointer (some ⟨X,0,none⟩)] w fun e w'=>RdEnd w0 w w' e X S:=by
  have HX:=yH h.base;have HP:=yH (fun o=>h.new (below_new w o));have HZ:=yH (heap_alloc_new w);have HB:=yH (below_new w);have HN:=yH (fun W (hW:Rr w0 W X S)=>qnow_any hW);have HE0:=yH (show ∀W,Rr w0 W X S→_ from fun W hW=>by have:=qeat_any hW (s:= [60]) (by decide);unfold PS.takes at this;rw[h0,if_neg (by decide)]at this;exact this);have HE1:=yH (show ∀W,Rr w0 W X S→_ from fun W hW=>by have:=qeat_any hW (s:= [62]) (by decide);unfold PS.takes at this;rw[h1,if_neg (by decide)]at this;exact this);have HE2:=yH (show ∀W,Rr w0 W X S→_ from fun W hW=>by have:=qeat_any hW (s:= [62,62]) (by decide);unfold PS.takes at this;rw[h2,if_pos rfl]at this;exact this);unfold RdEnd;have HM:=yH (show redirM S=((S.hd.text,S.take.word.1),S.take.word.2)from rfl);rw[HM.out];dsimp only;obtain⟨t,ht⟩:∃t,S.hd=t:=⟨_,rfl⟩;rw[ht]at HN ⊢;unfold tkN at HN;obtain⟨kd,hkd⟩:∃x,t.kind=x:=⟨_,rfl⟩;obtain⟨tx,htx⟩:∃x,T t.text=x:=⟨_,rfl⟩;obtain⟨wl,hwl⟩:∃x,t.word.length=x:=⟨_,rfl⟩;simp only[hkd,htx,hwl]at HN;rw[htx];obtain⟨SA,hSA⟩:∃SA,S.take=SA:=⟨_,rfl⟩;rw[hSA]at HE2 ⊢;have HAN:=yH (fun W (hW:Rr w0 W X SA)=>qany_any hW);obtain⟨wn,hwn⟩:∃x,SA.word.1.length=x:=⟨_,rfl⟩;rw[hwn]at HAN ⊢;clear h ht hkd htx hwl hSA hwn HM h0 h1 h2;go_enter Tryz.func179,Tryz.ntmps179
  go_wp2_with (first
    |(go_at_call 29;refine(HN.out _ (HP.out _)).mono ?_;rintro en w1 ⟨p,k,a,rfl, -,hb⟩;have hz1:=(hb.block w.heap.size (by simp)).trans (HZ.out _);have HW1:=yH (And.intro (((HP.out _).new hb).new (below_new w1 (.cells #[.int .i64 kd,.string tx,.slice p wl k,.int .i64 a] 53))) (And.intro (((HB.out _).trans (hb.mono (HB.out _).size)).trans ((below_new w1 (.cells #[.int .i64 kd,.string tx,.slice p wl k,.int .i64 a] 53)).mono (by have:=hb.size;simp at this;omega))) (And.intro ((Below.heap_alloc w1 (.cells #[.int .i64 kd,.string tx,.slice p wl k,.int .i64 a] 53) _ (gS.1 hz1).1).trans hz1) (heap_alloc_new w1 (.cells #[.int .i64 kd,.string tx,.slice p wl k,.int .i64 a] 53)))));clear hb hz1)
    |(go_at_call 113;(with_reducible refine(HE0.out _ HW1.out.1).mono ?_);rintro en v0 ⟨rfl,hs⟩;(have HV0:=yH (And.intro hs.1 (And.intro ((Kept.of_below HW1.out.2.1).on hs.2) (And.intro (hs.2.heap HW1.out.2.2.1 (by have:=HX.out;omega)) (hs.2.heap HW1.out.2.2.2 (by have:=HX.out;have:=(gS.1 HW1.out.2.2.1).1;simp at this;omega))))));clear hs)
    |(go_at_call 113;(with_reducible refine(HE1.out _ HV0.out.1).mono ?_);rintro en v1 ⟨rfl,hs⟩;(have HV1:=yH (And.intro hs.1 (And.intro (HV0.out.2.1.on hs.2) (And.intro (hs.2.heap HV0.out.2.2.1 (by have:=HX.out;omega)) (hs.2.heap HV0.out.2.2.2 (by have:=HX.out;have:=(gS.1 HW1.out.2.2.1).1;simp at this;omega))))));clear hs)
    |(go_at_call 113;(with_reducible refine(HE2.out _ HV1.out.1).mono ?_);rintro en v2 ⟨rfl,hs⟩;(have HV2:=yH (And.intro hs.1 (And.intro (HV1.out.2.1.on hs.2) (And.intro (hs.2.heap HV1.out.2.2.1 (by have:=HX.out;omega)) (hs.2.heap HV1.out.2.2.2 (by have:=HX.out;have:=(gS.1 HW1.out.2.2.1).1;simp at this;omega))))));clear hs))
  obtain⟨hr,hk,hz,hb⟩:=HV2.out;have HV:=yH (And.intro hr (And.intro hk hz));have hX1:=HX.out
  have hXB:w1.heap.size≠X:=fun e=>by
    have:=(gS.1 HW1.out.2.2.1).1;have h3:=HW1.out.2.1.size;simp at this;omega
  obtain⟨Bx,hBx⟩:∃Bx,w1.heap.size=Bx:=⟨_,rfl⟩;rw[hBx]at hb hXB ⊢;have HXB:=yH hXB;clear hr hk hz hX1 hXB hBx;refine regionL (S:=(fun W=>W.heap[Bx]? =some (.cells #[.int .i64 kd,.string tx,.slice p wl k,.int .i64 a] 53 (0,0)))) (L:=5) (by kernel_rfl) hb (fun hHeld=> ?_);refine tkL 0 21 rfl rfl ?_ ?_ ?_;rotate_left
  · intro _ _;go_simp<;>(with_reducible rfl)
  simp only[pS];refine takeL (i:=1) (k:=22) (v:= .string tx) rfl (by kernel_rfl) (by kernel_rfl) (by kernel_rfl) (by kernel_rfl) (fun _ _ _ h=>h) (by kernel_rfl) (by kernel_rfl) (by kernel_rfl) (by rfl) ?_ (by assumption) ?_
  · intro w hSw;have d1:=cell_plain hSw 1;go_simp
  simp only[pS];refine tkL 2 23 rfl rfl ?_ ?_ ?_;rotate_left
  · intro _ _;go_simp<;>(with_reducible rfl)
  simp only[pS];refine nxL 3 rfl (fun K hK=> ?_);go_simp
  go_wp2_with (go_at_call 212;refine(HAN.out _ (HV.out.1.kept (D:=fun _=>False) (Kept.of_below (below_drewA v2)) (fun h=>h) (fun _ h=>h.elim))).mono ?_;rintro en w5 ⟨p5,k5,rfl,hu,hs⟩;have HS5:=yH (And.intro hu (And.intro hs (And.intro (hs.2.heap hHeld HXB.out) (hs.2.heap HV.out.2.2 (by have:=HX.out;omega)))));clear hu hs)
  refine hK.out _ _ ?_ ?_
  · exact .inr HS5.out.2.2.1
  clear hK K;refine nxL 4 rfl (fun K hK=> ?_);go_simp;refine hK.out _ _ ?_ ?_
  · exact .inr HS5.out.2.2.1
  clear hK K
  try simp only[Act.put,List.getElem_toArray,List.getElem_cons_succ,List.getElem_cons_zero,pS]
  refine nxL 5 rfl (fun K hK=> ?_);refine wp_store_row 125 (.tmp 2) (.tmp 25) rfl w.heap.size #[.string tx,.slice p5 wn k5] rfl rfl 125 #[.string ⟨#[]⟩,.slice none 0 0] HS5.out.2.2.2 (by rw[redir_info];rfl) rfl (two_all' rfl rfl) ?_;refine hK.out _ _ ?_ ?_
  · exact .inl (by kernel_rfl)
  clear hK K
  try simp only[Act.put,List.getElem_toArray,List.getElem_cons_succ,List.getElem_cons_zero,pS]
  refine nxL 6 rfl (fun K hK=> ?_);go_simp;refine hK.out _ _ ?_ ?_
  · exact .inl (by kernel_rfl)
  clear hK K
  try simp only[Act.put,List.getElem_toArray,List.getElem_cons_succ,List.getElem_cons_zero]
  refine doneL (by kernel_rfl) ?_ _
  (try simp only[Exit.then])
  go_wp2_with fail
  (try simp only[Exit.inBlock,Exit.then])
  obtain⟨hu,hs, -,hz⟩:=HS5.out;refine bodyPost_ret (ret_redir2 rfl (setRow_heap w5 w.heap.size _ _ 125 (0,0) hz) rfl rfl) rfl ?_;have hk:=kept_row0 w5 w.heap.size #[.string tx,.slice p5 wn k5];have hx:=HX.out;exact⟨p5,k5,rfl,hu,hs.1.kept hk (by omega) (fun i hi=>by omega),(((HV.out.2.1.on (Kept.of_below (below_drewA v2))).on hs.2).trans hk fun i hi=> .inr (by omega))⟩
set_option maxHeartbeats 4000000 in
set_option maxRecDepth 4000 in
theorem qredir_no {w0 w:World} {X:Nat} {S:PS} (h:Rr w0 w X S) (h0:S.is [60]=false) (h1:S.is [62]=false) (h2:S.is [62,62]=false):
    Calls Tryz.prog 179 #[.pointer (some ⟨X,0,none⟩)] w fun e w'=>e= .returned (.tuple #[.agg #[.string ⟨#[]⟩,.slice none 0 0],.bool false])∧QStep w0 w w' X S:=by
  have HX:=yH h.base;have HP:=yH (fun o=>h.new (below_new w o));have HZ:=yH (heap_alloc_new w);have HB:=yH (below_new w);have HN:=yH (fun W (hW:Rr w0 W X S)=>qnow_any hW);have HE0:=yH (show ∀W,Rr w0 W X S→_ from fun W hW=>by have:=qeat_any hW (s:= [60]) (by decide);unfold PS.takes at this;rw[h0,if_neg (by decide)]at this;exact this);have HE1:=yH (show ∀W,Rr w0 W X S→_ from fun W hW=>by have:=qeat_any hW (s:= [62]) (by decide);unfold PS.takes at this;rw[h1,if_neg (by decide)]at this;exact this);have HE2:=yH (show ∀W,Rr w0 W X S→_ from fun W hW=>by have:=qeat_any hW (s:= [62,62]) (by decide);unfold PS.takes at this;rw[h2,if_neg (by decide)]at this;exact this);obtain⟨t,ht⟩:∃t,S.hd=t:=⟨_,rfl⟩;rw[ht]at HN;unfold tkN at HN;obtain⟨kd,hkd⟩:∃x,t.kind=x:=⟨_,rfl⟩;obtain⟨tx,htx⟩:∃x,T t.text=x:=⟨_,rfl⟩;obtain⟨wl,hwl⟩:∃x,t.word.length=x:=⟨_,rfl⟩;simp only[hkd,htx,hwl]at HN;clear h ht hkd htx hwl h0 h1 h2;go_enter Tryz.func179,Tryz.ntmps179
  go_wp2_with (first
    |(go_at_call 29;refine(HN.out _ (HP.out _)).mono ?_;rintro en w1 ⟨p,k,a,rfl, -,hb⟩;have hz1:=(hb.block w.heap.size (by simp)).trans (HZ.out _);have HW1:=yH (And.intro (((HP.out _).new hb).new (below_new w1 (.cells #[.int .i64 kd,.string tx,.slice p wl k,.int .i64 a] 53))) (And.intro (((HB.out _).trans (hb.mono (HB.out _).size)).trans ((below_new w1 (.cells #[.int .i64 kd,.string tx,.slice p wl k,.int .i64 a] 53)).mono (by have:=hb.size;simp at this;omega))) (And.intro ((Below.heap_alloc w1 (.cells #[.int .i64 kd,.string tx,.slice p wl k,.int .i64 a] 53) _ (gS.1 hz1).1).trans hz1) (heap_alloc_new w1 (.cells #[.int .i64 kd,.string tx,.slice p wl k,.int .i64 a] 53)))));clear hb hz1)
    |(go_at_call 113;(with_reducible refine(HE0.out _ HW1.out.1).mono ?_);rintro en v0 ⟨rfl,hs⟩;(have HV0:=yH (And.intro hs.1 (And.intro ((Kept.of_below HW1.out.2.1).on hs.2) (And.intro (hs.2.heap HW1.out.2.2.1 (by have:=HX.out;omega)) (hs.2.heap HW1.out.2.2.2 (by have:=HX.out;have:=(gS.1 HW1.out.2.2.1).1;simp at this;omega))))));clear hs)
    |(go_at_call 113;(with_reducible refine(HE1.out _ HV0.out.1).mono ?_);rintro en v1 ⟨rfl,hs⟩;(have HV1:=yH (And.intro hs.1 (And.intro (HV0.out.2.1.on hs.2) (And.intro (hs.2.heap HV0.out.2.2.1 (by have:=HX.out;omega)) (hs.2.heap HV0.out.2.2.2 (by have:=HX.out;have:=(gS.1 HW1.out.2.2.1).1;simp at this;omega))))));clear hs)
    |(go_at_call 113;(with_reducible refine(HE2.out _ HV1.out.1).mono ?_);rintro en v2 ⟨rfl,hs⟩;(have HV2:=yH (And.intro hs.1 (And.intro (HV1.out.2.1.on hs.2) (And.intro (hs.2.heap HV1.out.2.2.1 (by have:=HX.out;omega)) (hs.2.heap HV1.out.2.2.2 (by have:=HX.out;have:=(gS.1 HW1.out.2.2.1).1;simp at this;omega))))));have d0:=cell_plain HV2.out.2.2.1 0;have d1:=cell_plain HV2.out.2.2.1 1;have f0:=frozen_plain HV2.out.2.2.1 0;have f1:=frozen_plain HV2.out.2.2.1 1;clear hs))
  (try simp only[Exit.inBlock,Exit.then])
  obtain⟨hr,hk,hz, -⟩:=HV2.out;have hx:=HX.out;refine bodyPost_ret (ret_redir2 rfl (heap_setCell_same _ w.heap.size 1 _ _ _ (heap_setCell_same v2 w.heap.size 0 _ _ _ hz)) rfl rfl) rfl ?_;have hk2:Kept (fun i=>i=w.heap.size) v2 ((v2.setCell ⟨w.heap.size,0,none⟩ (.string ⟨#[]⟩)).setCell ⟨w.heap.size,1,none⟩ (.slice none 0 0)):=((Kept.refl (fun i=>i=w.heap.size) v2).setCell (p:=⟨w.heap.size,0,none⟩) (.inl rfl) _).setCell (p:=⟨w.heap.size,1,none⟩) (.inl rfl) _;exact⟨rfl,hr.kept hk2 (by omega) (fun i hi=>by omega),hk.trans hk2 fun i hi=> .inr (by omega)⟩
theorem qredir_any {w0 w:World} {X:Nat} {S:PS} (h:Rr w0 w X S):
    Calls Tryz.prog 179 #[.pointer (some ⟨X,0,none⟩)] w fun e w'=>(S.isRedir=true→RdEnd w0 w w' e X S)∧(S.isRedir=false→e= .returned (.tuple #[.agg #[.string ⟨#[]⟩,.slice none 0 0],.bool false])∧QStep w0 w w' X S):=by
  have hI:S.isRedir=(S.is [60]||(S.is [62]||S.is [62,62])):=rfl
  cases h0:S.is [60]with
  |true=>rw[h0,Bool.true_or]at hI;exact(qredir_lt h h0).mono fun e w' he=>⟨fun _=>he,fun hn=>by rw[hI]at hn;cases hn⟩
  |false=>
    cases h1:S.is [62]with
    |true=>rw[h0,h1,Bool.true_or,Bool.or_true]at hI;exact(qredir_gt h h0 h1).mono fun e w' he=>⟨fun _=>he,fun hn=>by rw[hI]at hn;cases hn⟩
    |false=>
      cases h2:S.is [62,62]with
      |true=>rw[h0,h1,h2,Bool.or_true,Bool.or_true]at hI;exact(qredir_gg h h0 h1 h2).mono fun e w' he=>⟨fun _=>he,fun hn=>by rw[hI]at hn;cases hn⟩
      |false=>rw[h0,h1,h2]at hI;exact(qredir_no h h0 h1 h2).mono fun e w' he=>⟨(fun hn=>by rw[hI]at hn;cases hn),fun _=>he⟩
structure Sv where
  pw:Option Addr
  cw:Nat
  cssw:List (List Value)
  Fw:Nat→Prop
  pa:Option Addr
  ca:Nat
  cssa:List (List Value)
  Fa:Nat→Prop
  pr:Option Addr
  cr:Nat
  cssr:List (List Value)
  Fr:Nat→Prop
def siC (V:Sv) (n:Nd):List Value:=ndC ⟨#[99,109,100]⟩ ⟨#[]⟩ (.slice V.pw n.words.length V.cw) (.slice none 0 0) (.slice V.pa n.assigns.length V.ca) (.slice V.pr n.redirs.length V.cr)
theorem pair_cel (s:ByteArray) (p:Option Addr) (n c:Nat):Cel 2 [.string s,.slice p n c]:=⟨rfl,fun v hv=>by
  simp only[List.mem_cons,List.not_mem_nil,or_false]at hv
  rcases hv with rfl|rfl<;>rfl⟩
theorem part_some {n:Nd} {S:PS} {a:List UInt8×List Pt} (h1:n.words= []) (h2:assignO S.hd.word=some a):ParseMath.partM n S=({ n with assigns:=n.assigns++ [a] },S.take):=by simp[ParseMath.partM,h1,h2]
theorem part_bad {n:Nd} {S:PS} (h1:n.words= []) (h2:assignO S.hd.word=none) (h3:n.assigns= []) (h4:reservedT S.tx=true):ParseMath.partM n S=(n,S.fail 2):=by simp[ParseMath.partM,h1,h2,h3,h4]
theorem part_more {n:Nd} {S:PS} (h1:n.words≠ []):ParseMath.partM n S=({ n with words:=n.words++ [S.word.1] },S.word.2):=by simp[ParseMath.partM,pushWord,h1]
theorem part_first {n:Nd} {S:PS} (h1:n.words= []) (h2:assignO S.hd.word=none) (h3:n.assigns≠ []∨reservedT S.tx=false):ParseMath.partM n S=({ n with words:=n.words++ [S.word.1] },S.word.2):=by
  rcases h3 with h3|h3<;>simp[ParseMath.partM,pushWord,h1,h2,h3]
theorem simpleL_redir {f:Nat} {n:Nd} {S:PS} (h:S.isRedir=true):simpleL (f+1) n S=simpleL f { n with redirs:=n.redirs++ [(redirM S).1] } (redirM S).2:=by rw[simpleL,if_pos h]
theorem simpleL_word {f:Nat} {n:Nd} {S:PS} (h:S.isRedir=false) (h2:S.isWord=true):simpleL (f+1) n S=simpleL f (ParseMath.partM n S).1 (ParseMath.partM n S).2:=by rw[simpleL,if_neg (by rw[h];decide),if_pos h2]
theorem simpleL_end {f:Nat} {n:Nd} {S:PS} (h:S.isRedir=false) (h2:S.isWord=false):simpleL (f+1) n S=(n,S):=by rw[simpleL,if_neg (by rw[h];decide),if_neg (by rw[h2];decide)]
def n0:Nd:= { nd0 with op:= [99,109,100] }
def V0:Sv:=⟨none,0,[],fun _=>False,none,0,[],fun _=>False,none,0,[],fun _=>False⟩
end Go.Proofs.YtcpmjkefbjbhpaaGreatDoor
