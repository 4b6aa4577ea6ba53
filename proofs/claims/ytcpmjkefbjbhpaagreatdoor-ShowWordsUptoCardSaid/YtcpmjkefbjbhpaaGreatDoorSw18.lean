/-
  Proved: contracts of functions, plain facts. Conditions: as each says.
-/
import Derived.Test.YtcpmjkefbjbhpaaGreatDoorSw12
import Derived.Test.YtcpmjkefbjbhpaaGreatDoorTokBack
import Derived.Test.YtcpmjkefbjbhpaaGreatDoorSw30
import Derived.Test.YtcpmjkefbjbhpaaGreatDoorSw13
import Derived.Test.YtcpmjkefbjbhpaaGreatDoorSw49
import Derived.Test.YtcpmjkefbjbhpaaGreatDoorCards
import Derived.Test.YtcpmjkefbjbhpaaGreatDoorTie
import Derived.Test.YtcpmjkefbjbhpaaGreatDoorSw48
import Derived.Lib.LaidU8
import Derived.LaidMore
import Derived.Lay
import Derived.Carry
import Derived.Stop.Joined
import Derived.Stop.LaidErr
import Derived.Deep.Fields
import Derived.Deep.Slices
namespace Go.Proofs.YtcpmjkefbjbhpaaGreatDoor
open Go Go.RowKit GlyphMath LexMath TreeMath ShowMath
theorem ne_len {l:List UInt8} (h:0<l.length):l≠ []:=by rintro rfl;simp at h
theorem part_ne {row:List Pt→List UInt8} {rt:List Pt→Bool} {wi:Bool} {p:Pt} (h:partT rt wi p=true):0<(partS row p).length:=by
  unfold partS bareS
  rcases part_kind h with ⟨hk,hl⟩|hk|hk
  · rw[if_pos hk]
    split
    · simp[quotedT]
    · rename_i hq
      unfold litT at hl;rw[Bool.eq_false_iff.2 hq,Bool.false_or,Bool.and_eq_true,Bool.and_eq_true,Bool.not_eq_true',List.isEmpty_eq_false_iff]at hl;exact List.length_pos_iff.2 hl.2.1
  · rw[if_neg (by omega),if_pos hk]
    split<;>split<;>simp
  · rw[if_neg (by omega:¬p.kind=1),if_neg (by omega:¬p.kind=2)]
    split<;>simp
theorem word_ne {ps:List Pt} (h:wordT ps=true):0<(wordS ps).length:=by
  obtain⟨h1, -,h3⟩:=word_row h;rw[h3]
  cases ps with
  |nil=>unfold wordT at h;cases h
  |cons p r=>
    have hp:=part_ne (row:=rowS 20) (row_parts h1 p (by simp));show 0<(partS (rowS 20) p++_).length;rw[List.length_append];omega
theorem join_ne {sep:List UInt8} {xs:List (List UInt8)} {a:List UInt8} (h:xs[0]? =some a) (ha:0<a.length):0<(joinS sep xs).length:=by
  cases xs with
  |nil=>simp at h
  |cons x r=>
    obtain rfl:x=a:=(by simpa using h);rw[joinS,List.length_append];omega
theorem cmd_ne {n:Nd} (hs:spellsT n=true) (ho:n.op= [99,109,100]):0<(cmdS n).length:=by
  have hno:=node_ok hs;rw[cmd_items];unfold spellsT at hs;rw[Bool.and_eq_true]at hs;have hb:=hs.1;unfold beginT at hb;rw[if_pos ho]at hb
  cases ha:n.assigns with
  |cons a r=>
    refine join_ne (a:=assignOne a) (item_a n (j:=0) (by rw[ha];rfl)) ?_;simp[assignOne];omega
  |nil=>
    cases hw:n.words with
    |cons x r=>
      have:=item_w n (j:=0) (a:=x) (by rw[hw];rfl);rw[ha]at this;exact join_ne this (word_ne (hno.words x (by rw[hw];simp)))
    |nil=>
      cases hr:n.redirs with
      |nil=>unfold commandT at hb;rw[ha,hw,hr]at hb;cases hb
      |cons x r=>
        have:=item_r n (j:=0) (a:=x) (by rw[hr];rfl);rw[ha,hw]at this;refine join_ne this ?_;simp[redirOne];omega
theorem node_ne {n:Nd} (h:fitsT n=true) (hs:spellsT n=true) (ks:List (List UInt8)) (hk:ks.length=n.kids.length):0<(nodeT n ks).length:=by
  by_cases hc:n.op= [99,109,100]
  · unfold nodeT
    rw[if_pos hc];exact cmd_ne hs hc
  obtain⟨s,hsm,ho,hf⟩:=fits_shape h;clear h;unfold shapeT hasT at hf;obtain⟨op,nm,kd,wd,pt,as_,rd⟩:=n;dsimp only at ho hf hc hk;subst ho;simp only[shapesL,List.mem_cons,List.not_mem_nil,or_false]at hsm
  have h2:∀sep:List UInt8,2≤ks.length→0<sep.length→0<(joinS sep ks).length:=fun sep h1 h2=>by
    match ks,h1 with
    |a::b::r,_=>simp[joinS];omega
  rcases hsm with rfl|rfl|rfl|rfl|rfl|rfl|rfl|rfl|rfl|rfl|rfl|rfl|rfl|rfl
  all_goals
    simp only[Bool.and_eq_true,decide_eq_true_eq]at hf
  · exact absurd rfl hc
  · exact h2 [59,32] (by omega) (by decide)
  · exact h2 [32,38,38,32] (by omega) (by decide)
  · exact h2 [32,124,124,32] (by omega) (by decide)
  · show 0<([33,32]++at0 ks 0).length;simp
  · exact h2 [32,124,32] (by omega) (by decide)
  · have h23:ks.length=2∨ks.length=3:=by omega
    show 0<(ifS ks++redirsS rd).length
    rcases h23 with h|h
    · obtain⟨a,b,rfl⟩:=wlen_two h;simp[ifS]
    · obtain⟨a,b,c,rfl⟩:=wlen_three h;simp[ifS]
  · show 0<(loopS [119,104,105,108,101] ks++redirsS rd).length;simp[loopS]
  · show 0<(loopS [117,110,116,105,108] ks++redirsS rd).length;simp[loopS]
  · show 0<(forS _ ks++redirsS rd).length;simp[forS]
  · show 0<(casesS _ ks++redirsS rd).length;simp[casesS]
  · show 0<(nm++ [40,41,32]++at0 ks 0).length;simp;omega
  · show 0<(([123,32]++at0 ks 0++ [59,32,125])++redirsS rd).length;simp
  · show 0<(([40,32]++at0 ks 0++ [32,41])++redirsS rd).length;simp
theorem text_ne {ns:List Nd} {root:Int} (h:isT ns root=true):textS ns≠ []:=by
  obtain⟨-,h⟩:=is_ok h;unfold textS
  cases hl:ns.length with
  |zero=>rw[hl]at h;exact h.elim
  |succ f=>
    rw[hl]at h;obtain⟨n,hn,hf,hs, -⟩:=h;rw[nodeS,hn];exact ne_len (node_ne hf hs _ (by rw[List.length_map]))
theorem Wr.fresh (w:World) (nv:Value) {B:Nat} (hB:B≤w.heap.size):Wr (w.alloc (.cells #[nv,.pointer none,.slice none 0 0] 85)) B w.heap.size nv []:=
  ⟨_,.inl rfl,hB,.slice none 0 0,heap_alloc_new w _,World.ownsRowF_of (World.ownsRow_nil _ _ _ _),by simp[Value.ownBlock]⟩
set_option maxHeartbeats 2000000 in
set_option maxRecDepth 100000 in
theorem show_text (ns:List Nd) (root:Int) (np:Option Addr) (nc:Nat) (w:World) (hN:NsAt w (.slice np ns.length nc) ns) (hS:Shapes w) (hF:Frames w) (hsm:∀n∈ns,NSmall n) (hi:isT ns root=true) (hL:(textS ns).length≤BigW):
    Calls Tryz.prog 15 #[.agg #[.slice np ns.length nc,.int .i64 root]] w fun e w'=>e= .returned (.string (T (textS ns)))∧Below w.heap.size w w':=by
  have HB:=yH (fun o=>below_one w o);have HI:=yH (fun o=>is_any ns root np nc (w.alloc o) (hN.below (below_one w o)) (hS.below (below_one w o)) hsm);rw[hi]at HI;obtain⟨hr0,hok⟩:=is_ok hi;have HNE:=yH (text_ne hi);subst hr0;have HX:=yH (fun (b:Nat) (W:World) h1 h2=>wnode_any (b:=b) hF hN ns.length 0 W [] hok h1 h2 (by rw[List.length_nil,Nat.zero_add];exact hL));unfold Puts at HX;have HX:=yH (show ∀(b:Nat) (W:World),Below w.heap.size w W→Wr W w.heap.size b (.slice np ns.length nc) []→Calls Tryz.prog 34 #[.pointer (some ⟨b,0,none⟩),.int .i64 0] W fun e w'=>e= .returned (.tuple #[])∧Wr w' w.heap.size b (.slice np ns.length nc) (textS ns)∧Ws w.heap.size b W w' from fun b W h1 h2=>by have:=HX.out b W h1 h2;rw[List.nil_append]at this;exact this);have HY:=yH (fun (b:Nat) (W:World) (h:Wr W w.heap.size b (.slice np ns.length nc) (textS ns)) hB=>wtext_any w.heap.size b (.slice np ns.length nc) (textS ns) W h HNE.out hB);obtain⟨R,hR⟩:∃R,T (textS ns)=R:=⟨_,rfl⟩;rw[hR]at HY ⊢
  generalize textS ns=tx at HX HY
  generalize ns.length=N at HI HX HY ⊢
  have HCW:=yH (heap_alloc_new w (.cells #[.slice np N nc,.int .i64 0] 24));clear hN hS hF hsm hi hL hok hR HNE;go_enter Tryz.func15,Tryz.ntmps15
  go_wp2_with (first
    |(go_at_call 33;refine(HI.out _).mono ?_;rintro e w2 ⟨rfl,hb⟩;obtain⟨c0,c1⟩:=two_cells ((hb.block _ (gS.1 HCW.out).1).trans HCW.out);have c2:=wcell_below c1 (below_one w2 (.cells #[.slice np N nc,.pointer none,.slice none 0 0] 85));have HB2:=yH ((HB.out _).trans (hb.mono (HB.out _).size));clear hb)
    |(go_at_call 34;refine(HX.out _ _ (HB2.out.alloc HB2.out.size _) (Wr.fresh w2 _ HB2.out.size)).mono ?_;rintro e w3 ⟨rfl,hw3,hs3⟩;have H3:=yH (And.intro hw3 ((HB2.out.alloc HB2.out.size _).trans hs3.below));clear hw3 hs3)
    |(go_at_call 35;refine(HY.out _ _ H3.out.1 H3.out.2.size).mono ?_;rintro e w4 ⟨rfl,hs4⟩;have H4:=yH (H3.out.2.trans hs4.below);clear hs4))
  go_ret;exact⟨rfl,H4.out⟩
set_option maxHeartbeats 2000000 in
set_option maxRecDepth 100000 in
theorem show_word (ps:List Pt) (v:Value) (w:World) (hv:PsAt w v ps) (hs:Small ps) (hi:wordT ps=true) (hL:(wordS ps).length≤BigW):
    Calls Tryz.prog 17 #[wordV v] w fun e w'=>e= .returned (.string (T (wordS ps)))∧Below w.heap.size w w':=by
  have HB:=yH (fun o=>below_one w o);have HI:=yH (fun o=>word_any ps v (w.alloc o) (hv.stays (below_one w o)) hs);rw[hi]at HI;have HNE:=yH (ne_len (word_ne hi));obtain⟨p,c,rfl, -, -⟩:=hv.is;have HX:=yH (fun (b:Nat) (nv:Value) (W:World) h1 h2=>wword_any (b:=b) (nv:=nv) (w:=W) (l:= []) hv hi h1 h2 (by simpa using hL));unfold Puts at HX;have HX:=yH (show ∀(b:Nat) (nv:Value) (W:World),Below w.heap.size w W→Wr W w.heap.size b nv []→Calls Tryz.prog 38 #[.pointer (some ⟨b,0,none⟩),.slice p ps.length c] W fun e w'=>e= .returned (.tuple #[])∧Wr w' w.heap.size b nv (wordS ps)∧Ws w.heap.size b W w' from fun b nv W h1 h2=>by have:=HX.out b nv W h1 h2;rw[List.nil_append]at this;exact this);have HY:=yH (fun (b:Nat) (nv:Value) (W:World) (h:Wr W w.heap.size b nv (wordS ps)) hB=>wtext_any w.heap.size b nv (wordS ps) W h HNE.out hB);obtain⟨R,hR⟩:∃R,T (wordS ps)=R:=⟨_,rfl⟩;rw[hR]at HY ⊢
  generalize wordS ps=tx at HX HY
  unfold wordV at HI ⊢
  generalize ps.length=N at HI HX ⊢
  have HCW:=yH (heap_alloc_new w (.cells #[.slice p N c] 45));clear hv hs hi hL hR HNE;go_enter Tryz.func17,Tryz.ntmps17
  go_wp2_with (first
    |(go_at_call 37;refine(HI.out _).mono ?_;rintro e w2 ⟨rfl,hb⟩;have c0:=one_cell ((hb.block _ (gS.1 HCW.out).1).trans HCW.out);have c1:=wcell_below c0 (below_one w2 (.cells #[.slice none 0 0,.pointer none,.slice none 0 0] 85));have HB2:=yH ((HB.out _).trans (hb.mono (HB.out _).size));clear hb)
    |(go_at_call 38;refine(HX.out _ _ _ (HB2.out.alloc HB2.out.size _) (Wr.fresh w2 _ HB2.out.size)).mono ?_;rintro e w3 ⟨rfl,hw3,hs3⟩;have H3:=yH (And.intro hw3 ((HB2.out.alloc HB2.out.size _).trans hs3.below));clear hw3 hs3)
    |(go_at_call 35;refine(HY.out _ _ _ H3.out.1 H3.out.2.size).mono ?_;rintro e w4 ⟨rfl,hs4⟩;have H4:=yH (H3.out.2.trans hs4.below);clear hs4))
  go_ret;exact⟨rfl,H4.out⟩
theorem enc_none:∀(l:List Nat),(∀c∈l,GoodL c)→firstBad ⟨(enc l).toArray⟩=none
  | [],_=>firstBad_low _ (by intro b hb;cases hb)
  |c::r,h=>by
    have hc:=h c (by simp);have ih:=enc_none r fun x hx=>h x (List.mem_cons_of_mem _ hx);have e:(⟨(enc (c::r)).toArray⟩:ByteArray)=⟨(eb c).toArray⟩++⟨(enc r).toArray⟩:=(by rw[bytes_append];rfl);rw[e,firstBad_append _ _ (firstBad_eb hc),ih];rfl
theorem sw_text {ps:List Pt} (h:wordT ps=true):∃s,s=T ([97,61]++wordS ps)∧isText s=true∧s.size=2+(wordS ps).length∧tokensL s.size ((letters s).length+1) (letters s) []=tokensM ([97,61]++rowN 21 ps):=by
  obtain⟨h1, -,h3⟩:=word_row h;obtain⟨h4,h5⟩:=row_enc 21 ps h1;obtain⟨xs,hxs⟩:∃xs,[97,61]++rowN 21 ps=xs:=⟨_,rfl⟩;have hg:∀c∈xs,GoodL c:=(by rw[←hxs];exact good_append (low_list (by decide)) h4);have he:enc xs= [97,61]++wordS ps:=(by rw[←hxs,enc_append,h5,h3];rfl);refine⟨_,rfl,?_,?_,?_⟩
  · unfold isText
    rw[←he];show(firstBad ⟨(enc xs).toArray⟩).isNone=true;rw[enc_none xs hg];rfl
  · show([97,61]++wordS ps).toArray.size=_
    simp;omega
  · rw[hxs,←he]
    unfold tokensM;have hl:letters (T (enc xs))=xs:=letters_enc xs hg;rw[hl];rfl
theorem give_cut {ps:List Pt} (h:wordT ps=true):∃p r t,giveP ps=p::r∧p.text= [97,61]++t∧((t≠ []∧ { p with text:=t } ::r=ps)∨(t= []∧r=ps)):=by
  obtain⟨h1, -, -⟩:=word_row h
  cases ps with
  |nil=>cases h
  |cons p r=>
    have hp:=ShowMath.row_parts h1 p (by simp)
    have eg:giveP (p::r)=if p.kind=1∧p.q=false then { p with text:= [97,61]++p.text } ::r else⟨1,[97,61],[],[],false⟩::p::r:=rfl
    rw[eg]
    split
    · rename_i hk
      refine⟨_,_,p.text,rfl,rfl,   .inl ⟨?_,by obtain⟨a,b,c,d,e⟩:=p;rfl⟩⟩;have hl:=part_ne (row:=rowS 20) hp;unfold partS at hl;rw[if_pos hk.1,hk.2]at hl;exact fun e=>(by rw[e]at hl;simp at hl)
    · exact⟨_,_,[],rfl,rfl,.inr ⟨rfl,rfl⟩⟩
theorem PsAt.tail {w:World} {g n c:Nat} {p:Pt} {ps:List Pt} (h:PsAt w (.slice (some ⟨g,0,none⟩) n c) (p::ps)) (hn:n=ps.length+1) (d:Nat):PsAt w (.slice (some ⟨g,5,none⟩) ps.length d) ps:=by
  cases h with
  |mk _ _ _ us h1 h2 h3 h4=>
    cases us with
    |nil=>simp at h1
    |cons u us=>
      refine .mk _ _ _ us (by simpa using h1) (by simp at h2;omega) (fun k q v hq hv=> ?_) fun k q v hq hv=>h4 (k+1) q v (by simpa using hq) (by simpa using hv);obtain⟨b,o,hbo,hx⟩:=h3 (k+1) q v (by simpa using hq) (by simpa using hv)
      cases hbo
      refine⟨_,_,rfl,fun i y hy=> ?_⟩;have:=hx i y hy;rw[←this]
      congr 2
      omega
theorem word_cut {w:World} {F:Nat→Prop} {v:Value} {p:Pt} {ps:List Pt} (h:WordV w F v (p::ps)):∃g c u o,v= .slice (some ⟨g,0,none⟩) (ps.length+1) c∧F g∧ps.length+1≤c∧c≤maxLen∧w.heap[g]? =some o∧
    w.cell? ⟨g,1,none⟩=some (txt p.text)∧w.frozen? ⟨g,1,none⟩=false∧PsAt w v (p::ps)∧u=p.word∧
    ∀t,PsAt (w.setCell ⟨g,1,none⟩ (txt t)) v ({ p with text:=t } ::ps)∧(w.setCell ⟨g,1,none⟩ (txt t)).cell? ⟨g,1,none⟩=some (txt t):=by
  have hP:=h.ps
  cases h with
  |row _ _ vs h1 h2 h3 h4=>
    cases vs with
    |nil=>simp at h2
    |cons u us=>
      rcases h1.2 with ⟨rfl,h0⟩|⟨g,cap,cur,rfl, -,hg,hle,hm,hcs, -⟩
      · simp at h0
      have hc:=h1.cellAt
      have hself:∀t,PsAt (w.setCell ⟨g,1,none⟩ (txt t)) (.slice (some ⟨g,0,none⟩) (ps.length+1) cap) ({ p with text:=t } ::ps)∧(w.setCell ⟨g,1,none⟩ (txt t)).cell? ⟨g,1,none⟩=some (txt t):=by
        intro t;have hs:=(World.ownsRow.stored (xs:=rowCells (p::ps) (u::us)) (n:=ps.length+1) h1 1 (txt t)).1;have e:(rowCells (p::ps) (u::us)).set 1 (txt t)=rowCells ({ p with text:=t } ::ps) (u::us):=rfl;rw[e]at hs;have hc1:=hs.cellAt 1 (by omega);refine⟨(WordV.row (F:=F) _ ({ p with text:=t } ::ps) (u::us) hs h2 h3 fun j q y hq hy=> ?_).ps,hc1⟩
        have hsame:∀q',(p::ps)[j]? =some q'→q'.word=q.word→WordV (w.setCell ⟨g,1,none⟩ (txt t)) (fun i=>F i∧(Value.slice (some ⟨g,0,none⟩) (ps.length+1) cap).ownBlock≠some i) y q.word:=fun q' hq' e=>by
          rw[←e];exact(h4 j q' y hq' hy).same fun i hi=>Below.heap_setCell w _ _ i (fun e=>hi.2 (by rw[e];rfl))
        cases j with
        |zero=>obtain rfl:=Option.some.inj hq;exact hsame p rfl rfl
        |succ j=>exact hsame q hq rfl
      refine⟨g,cap,p.word,_,rfl,h3 g rfl,hle,hm,hg,?_,frozen_plain hg 1,hP,rfl,hself⟩;exact hc 1 (by rw[List.length_cons];omega)
end Go.Proofs.YtcpmjkefbjbhpaaGreatDoor
namespace Go.Proofs.YtcpmjkefbjbhpaaGreatDoor
open Go Go.ChangeShapes Go.WideShapes Go.ChangeAt Go.WideMaps Go.WideElems Go.RowKit GlyphMath LexMath TreeMath
theorem shape_data:(Rows.laid_lazarus_tree_shapes:DataW Unit)= .agg (shapesL.map fun s=> .agg [.lit (.string s.op),.agg [.lit (.int .i64 s.k0),.lit (.int .i64 s.k1)],.agg [.lit (.int .i64 s.w0),.lit (.int .i64 s.w1)],.lit (.bool s.name),.lit (.bool s.pats),.lit (.bool s.assigns),.lit (.bool s.redirs)]):=by kernel_rfl
theorem shape_named : Tryz.prog.globalNamed "lazarus/tree.shapes" = some 2 := by kernel_rfl
theorem shape_type:(Tryz.prog.globals[2]?).map (·.type)=some 189:=by kernel_rfl
theorem shape_struct:∃f0 f1 f2 f3 f4 f5 f6:Field,Tryz.prog.underlying 188=some (.struct #[f0,f1,f2,f3,f4,f5,f6])∧(f0.type=9∧f0.offset=0)∧(f1.type=186∧f1.offset=1)∧(f2.type=186∧f2.offset=3)∧(f3.type=4∧f3.offset=5)∧(f4.type=4∧f4.offset=6)∧(f5.type=4∧f5.offset=7)∧(f6.type=4∧f6.offset=8):=
  ⟨_,_,_,_,_,_,_,Tryz.underlying188,⟨rfl,rfl⟩,⟨rfl,rfl⟩,⟨rfl,rfl⟩,⟨rfl,rfl⟩,⟨rfl,rfl⟩,⟨rfl,rfl⟩,⟨rfl,rfl⟩⟩
theorem count_struct:∃f0 f1:Field,Tryz.prog.underlying 186=some (.struct #[f0,f1])∧(f0.type=3∧f0.offset=0)∧(f1.type=3∧f1.offset=1):=
  ⟨_,_,Tryz.underlying186,⟨rfl,rfl⟩,⟨rfl,rfl⟩⟩
theorem shape_cells:Tryz.prog.cellsOf 188=9∧Tryz.prog.cellsOf 186=2∧Tryz.prog.cellsOf 3=1∧Tryz.prog.cellsOf 9=1∧Tryz.prog.cellsOf 4=1:=⟨by kernel_rfl,by kernel_rfl,by kernel_rfl,by kernel_rfl,by kernel_rfl⟩
section
variable {H : Type} {enc : TypeId × Value → H} {P : Program} {w : World} {base : Nat} {spare : Nat → Bool} {held : Bool}
theorem trod_struct7 {t:TypeId} {f0 f1 f2 f3 f4 f5 f6:Field} {fuel:Nat} {cs:List Value} {x:DataW H×List MemPlace} (ht:P.underlying t=some (.struct #[f0,f1,f2,f3,f4,f5,f6])) (h:DataW.trod enc P w base spare held fuel t cs=some x):
    ∃y0 y1 y2 y3 y4 y5 y6 n,x.1= .agg [y0.1,y1.1,y2.1,y3.1,y4.1,y5.1,y6.1]∧cs.length=P.cellsOf t∧DataW.trod enc P w base spare held n f0.type ((cs.drop f0.offset).take (P.cellsOf f0.type))=some y0∧
      DataW.trod enc P w base spare held n f1.type ((cs.drop f1.offset).take (P.cellsOf f1.type))=some y1∧DataW.trod enc P w base spare held n f2.type ((cs.drop f2.offset).take (P.cellsOf f2.type))=some y2∧
      DataW.trod enc P w base spare held n f3.type ((cs.drop f3.offset).take (P.cellsOf f3.type))=some y3∧DataW.trod enc P w base spare held n f4.type ((cs.drop f4.offset).take (P.cellsOf f4.type))=some y4∧
      DataW.trod enc P w base spare held n f5.type ((cs.drop f5.offset).take (P.cellsOf f5.type))=some y5∧DataW.trod enc P w base spare held n f6.type ((cs.drop f6.offset).take (P.cellsOf f6.type))=some y6:=by
  obtain⟨xs,n,_,rfl,hl,hlen,hf⟩:=DataW.trod_struct ht h
  match xs,hlen with
  | [y0,y1,y2,y3,y4,y5,y6],_=>exact⟨y0,y1,y2,y3,y4,y5,y6,n,rfl,hl,by simpa using hf 0 f0 rfl,by simpa using hf 1 f1 rfl,by simpa using hf 2 f2 rfl,by simpa using hf 3 f3 rfl,by simpa using hf 4 f4 rfl,by simpa using hf 5 f5 rfl,by simpa using hf 6 f6 rfl⟩
end
theorem one_lit {c:Value} {s:ByteArray} {l:List UInt8} (h1: [c]= [.string s]) (h2:(DataW.lit (.string l):DataW Unit)= .lit (.string s.data.toList)):c= .string (T l):=by
  cases h2
  simpa using h1
theorem count_read {w:World} {base:Nat} {spare:Nat→Bool} {held:Bool} {fuel:Nat} {cs:List Value} {a b:Int} {y:DataW Unit×List MemPlace} (hf:DataW.trod (H:=Unit) (fun _=>()) Tryz.prog w base spare held fuel 186 cs=some y) (hy:y.1= .agg [.lit (.int .i64 a),.lit (.int .i64 b)]):
    cs= [.int .i64 a,.int .i64 b]:=by
  obtain⟨f0,f1,hu,⟨t0,o0⟩,⟨t1,o1⟩⟩:=count_struct;obtain⟨y0,y1,n,rfl,hl,h0,h1⟩:=trod_struct2 hu hf;rw[shape_cells.2.1]at hl;rw[t0,o0,shape_cells.2.2.1]at h0;rw[t1,o1,shape_cells.2.2.1]at h1
  match cs,hl with
  | [c0,c1],_=>
    simp only[List.drop_zero,List.drop_succ_cons,List.take_succ_cons,List.take_zero]at h0 h1;obtain⟨z,hz,hx, -⟩:=DataW.trod_int Tryz.underlying3 h0;obtain⟨z2,hz2,hx2, -⟩:=DataW.trod_int Tryz.underlying3 h1;subst hx hx2;simp only[DataW.agg.injEq,List.cons.injEq,DataW.lit.injEq,Lit.int.injEq,true_and,and_true]at hy;obtain⟨rfl,rfl⟩:=hy;obtain rfl:c0= .int .i64 z:=(by simpa using hz);obtain rfl:c1= .int .i64 z2:=(by simpa using hz2);rfl
theorem shape_read {w:World} {base:Nat} {spare:Nat→Bool} {held:Bool} {fuel:Nat} {cs:List Value} {s:Sh} {y:DataW Unit×List MemPlace} (hf:DataW.trod (H:=Unit) (fun _=>()) Tryz.prog w base spare held fuel 188 cs=some y)
    (hy:y.1= .agg [.lit (.string s.op),.agg [.lit (.int .i64 s.k0),.lit (.int .i64 s.k1)],.agg [.lit (.int .i64 s.w0),.lit (.int .i64 s.w1)],.lit (.bool s.name),.lit (.bool s.pats),.lit (.bool s.assigns),.lit (.bool s.redirs)]):
    cs= [txt s.op,.int .i64 s.k0,.int .i64 s.k1,.int .i64 s.w0,.int .i64 s.w1,.bool s.name,.bool s.pats,.bool s.assigns,.bool s.redirs]:=by
  obtain⟨f0,f1,f2,f3,f4,f5,f6,hu,⟨t0,o0⟩,⟨t1,o1⟩,⟨t2,o2⟩,⟨t3,o3⟩,⟨t4,o4⟩,⟨t5,o5⟩,⟨t6,o6⟩⟩:=shape_struct;obtain⟨y0,y1,y2,y3,y4,y5,y6,n,hx,hl,h0,h1,h2,h3,h4,h5,h6⟩:=trod_struct7 hu hf;rw[hx]at hy;simp only[DataW.agg.injEq,List.cons.injEq,and_true]at hy;obtain⟨g0,g1,g2,g3,g4,g5,g6⟩:=hy;rw[shape_cells.1]at hl;rw[t0,o0,shape_cells.2.2.2.1]at h0;rw[t1,o1,shape_cells.2.1]at h1;rw[t2,o2,shape_cells.2.1]at h2;rw[t3,o3,shape_cells.2.2.2.2]at h3;rw[t4,o4,shape_cells.2.2.2.2]at h4;rw[t5,o5,shape_cells.2.2.2.2]at h5;rw[t6,o6,shape_cells.2.2.2.2]at h6
  match cs,hl with
  | [c0,c1,c2,c3,c4,c5,c6,c7,c8],_=>
    simp only[List.drop_zero,List.drop_succ_cons,List.take_succ_cons,List.take_zero]at h0 h1 h2 h3 h4 h5 h6;have r1:=count_read h1 g1;have r2:=count_read h2 g2;obtain⟨z0,q0,x0, -⟩:=DataW.trod_string Tryz.underlying9 h0;obtain⟨z3,q3,x3⟩:=DataW.trod_bool Tryz.underlying4 h3;obtain⟨z4,q4,x4⟩:=DataW.trod_bool Tryz.underlying4 h4;obtain⟨z5,q5,x5⟩:=DataW.trod_bool Tryz.underlying4 h5;obtain⟨z6,q6,x6⟩:=DataW.trod_bool Tryz.underlying4 h6;subst x0 x3 x4 x5 x6;simp only[DataW.lit.injEq,Lit.bool.injEq]at g3 g4 g5 g6;have r0:=one_lit q0 g0.symm;subst g3 g4 g5 g6;simp only[List.cons.injEq,and_true]at r1 r2 q3 q4 q5 q6;obtain⟨rfl,rfl⟩:=r1;obtain⟨rfl,rfl⟩:=r2;rw[r0,q3,q4,q5,q6];rfl
theorem cells_get:∀(l:List Sh) (k i:Nat) (s:Sh),l[k]? =some s→i<9→(l.flatMap fun s=> [txt s.op,.int .i64 s.k0,.int .i64 s.k1,.int .i64 s.w0,.int .i64 s.w1,.bool s.name,.bool s.pats,.bool s.assigns,.bool s.redirs])[k*9+i]? = [txt s.op,.int .i64 s.k0,.int .i64 s.k1,.int .i64 s.w0,.int .i64 s.w1,Value.bool s.name,.bool s.pats,.bool s.assigns,.bool s.redirs][i]?
  | [],_,_,_,h,_=>by simp at h
  |a::l,0,i,s,h,hi=>by
    obtain rfl:=Option.some.inj h;rw[List.flatMap_cons,Nat.zero_mul,Nat.zero_add,List.getElem?_append_left (by simpa using hi)]
  |a::l,k+1,i,s,h,hi=>by
    rw[List.flatMap_cons,List.getElem?_append_right (by simp;omega)];have:=cells_get l k i s h hi;rw[←this]
    congr 1
    simp;omega
set_option maxRecDepth 100000 in
theorem shapes_of_reads {w : World} (h : Lib.VarReads Tryz.prog w "lazarus/tree.shapes" Rows.laid_lazarus_tree_shapes) : Shapes w := by
  obtain⟨g,t,cs,fuel,p,hg,hty,hvar,hd⟩:=h;obtain rfl:=Option.some.inj (shape_named.symm.trans hg);obtain rfl:=Option.some.inj (shape_type.symm.trans hty);rw[shape_data]at hd
  have key:∀k s,shapesL[k]? =some s→∀i,i<9→cs.toList[k*9+i]? = [txt s.op,.int .i64 s.k0,.int .i64 s.k1,.int .i64 s.w0,.int .i64 s.w1,Value.bool s.name,.bool s.pats,.bool s.assigns,.bool s.redirs][i]? :=by
    intro k s hk i hi;have hk14:k<14:=(List.getElem?_eq_some_iff.1 hk).1;obtain⟨fuel',d,q,hdi,he⟩:=Lib.array_elem Tryz.underlying189 hd k hk14;rw[List.getElem?_map,hk]at hdi;have hd2:=Option.some.inj hdi;have hr:=shape_read (s:=s) he hd2.symm;rw[shape_cells.1]at hr;have:=congrArg (·[i]?) hr;simp only[List.getElem?_take,List.getElem?_drop,hi,if_true]at this;exact this
  intro j v hj;have hjl:j<126:=(List.getElem?_eq_some_iff.1 hj).1;have hk:j/9<shapesL.length:=(by show j/9<14;omega);have hs:shapesL[j/9]? =some (shapesL[j/9]):=List.getElem?_eq_getElem hk;have e:j/9*9+j % 9=j:=(by omega);have h1:=key (j/9) _ hs (j % 9) (by omega);have h2:=cells_get shapesL (j/9) (j % 9) _ hs (by omega);rw[e]at h1 h2;have hv:=World.var?_cell hg hvar j;rw[Nat.zero_add,hv,←Array.getElem?_toList,h1,←h2];exact hj
end Go.Proofs.YtcpmjkefbjbhpaaGreatDoor
