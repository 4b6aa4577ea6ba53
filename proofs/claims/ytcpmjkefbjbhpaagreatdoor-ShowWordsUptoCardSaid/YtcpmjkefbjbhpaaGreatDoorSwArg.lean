/-
  Proved: what a row gives of an argument that is a word: its parts lie in memory, its texts are short, and so is what is shown of it. Conditions: the row's own bound.
-/
import Derived.Test.YtcpmjkefbjbhpaaGreatDoorSw18
import Derived.Test.YtcpmjkefbjbhpaaGreatDoorSw00
import Derived.Test.YtcpmjkefbjbhpaaGreatDoorSw12
import Derived.Lib.SmallJoins
namespace Go.Proofs.YtcpmjkefbjbhpaaGreatDoor
open Go Go.ChangeShapes Go.WideShapes Go.ChangeAt Go.WideMaps Go.WideElems Go.RowKit Go.Deep GlyphMath LexMath TreeMath ShowMath
def wordsL : List (String × DataW Unit) := [("unicode/utf8.acceptRanges", Rows.laid_unicode_utf8_acceptRanges), ("lazarus/tree.shapes", Rows.laid_lazarus_tree_shapes), ("lazarus/show.frames", Rows.laid_lazarus_show_frames), ("unicode/utf8.first", Rows.laid_unicode_utf8_first)]
theorem frame_data:(Rows.laid_lazarus_show_frames:DataW Unit)= .agg (framesL.map fun s=> .agg [.lit (.string s.op),.lit (.string s.first),.lit (.string s.second),.lit (.string s.other),.lit (.string s.last)]):=by kernel_rfl
theorem frame_named : Tryz.prog.globalNamed "lazarus/show.frames" = some 0 := by kernel_rfl
theorem frame_type:(Tryz.prog.globals[0]?).map (·.type)=some 122:=by kernel_rfl
theorem frame_struct:∃f0 f1 f2 f3 f4:Field,Tryz.prog.underlying 121=some (.struct #[f0,f1,f2,f3,f4])∧(f0.type=9∧f0.offset=0)∧(f1.type=9∧f1.offset=1)∧(f2.type=9∧f2.offset=2)∧(f3.type=9∧f3.offset=3)∧(f4.type=9∧f4.offset=4):=
  ⟨_,_,_,_,_,Tryz.underlying121,⟨rfl,rfl⟩,⟨rfl,rfl⟩,⟨rfl,rfl⟩,⟨rfl,rfl⟩,⟨rfl,rfl⟩⟩
theorem sw_cells:Tryz.prog.cellsOf 121=5∧Tryz.prog.cellsOf 9=1∧Tryz.prog.cellsOf 55=5∧Tryz.prog.cellsOf 45=1∧Tryz.prog.cellsOf 3=1∧Tryz.prog.cellsOf 4=1∧Tryz.prog.cellsOf 43=1:=
  ⟨by kernel_rfl,by kernel_rfl,by kernel_rfl,by kernel_rfl,by kernel_rfl,by kernel_rfl,by kernel_rfl⟩
theorem part_struct:∃f0 f1 f2 f3 f4:Field,Tryz.prog.underlying 55=some (.struct #[f0,f1,f2,f3,f4])∧(f0.type=3∧f0.offset=0)∧(f1.type=9∧f1.offset=1)∧(f2.type=9∧f2.offset=2)∧(f3.type=43∧f3.offset=3)∧(f4.type=4∧f4.offset=4):=
  ⟨_,_,_,_,_,Tryz.underlying55,⟨rfl,rfl⟩,⟨rfl,rfl⟩,⟨rfl,rfl⟩,⟨rfl,rfl⟩,⟨rfl,rfl⟩⟩
theorem word_struct:∃f0:Field,Tryz.prog.underlying 45=some (.struct #[f0])∧(f0.type=43∧f0.offset=0):=⟨_,Tryz.underlying45,⟨rfl,rfl⟩⟩
section
variable {H : Type} {enc : TypeId × Value → H} {W : World}
abbrev Rd1 (enc:TypeId×Value→H) (W:World) (base:Nat) (spare:Nat→Bool) (held:Bool) (fuel:Nat) (t:TypeId) (cs:List Value) (x:DataW H×List MemPlace):Prop:=DataW.trod enc Tryz.prog W base spare held fuel t cs=some x
theorem read_struct5 {base:Nat} {spare:Nat→Bool} {held:Bool} {t:TypeId} {f0 f1 f2 f3 f4:Field} {fuel:Nat} {cs:List Value} {x:DataW H×List MemPlace} (ht:Tryz.prog.underlying t=some (.struct #[f0,f1,f2,f3,f4])) (h:Rd1 enc W base spare held fuel t cs x):
    ∃y0 y1 y2 y3 y4 n,x.1= .agg [y0.1,y1.1,y2.1,y3.1,y4.1]∧cs.length=Tryz.prog.cellsOf t∧Rd1 enc W base spare held n f0.type ((cs.drop f0.offset).take (Tryz.prog.cellsOf f0.type)) y0∧Rd1 enc W base spare held n f1.type ((cs.drop f1.offset).take (Tryz.prog.cellsOf f1.type)) y1∧Rd1 enc W base spare held n f2.type ((cs.drop f2.offset).take (Tryz.prog.cellsOf f2.type)) y2∧Rd1 enc W base spare held n f3.type ((cs.drop f3.offset).take (Tryz.prog.cellsOf f3.type)) y3∧Rd1 enc W base spare held n f4.type ((cs.drop f4.offset).take (Tryz.prog.cellsOf f4.type)) y4:=by
  obtain⟨xs,n,_,rfl,hl,hlen,hf⟩:=DataW.trod_struct ht h
  match xs,hlen with
  | [y0,y1,y2,y3,y4],_=>exact⟨y0,y1,y2,y3,y4,n,rfl,hl,by simpa using hf 0 f0 rfl,by simpa using hf 1 f1 rfl,by simpa using hf 2 f2 rfl,by simpa using hf 3 f3 rfl,by simpa using hf 4 f4 rfl⟩
end
theorem frame_read {w:World} {base:Nat} {spare:Nat→Bool} {held:Bool} {fuel:Nat} {cs:List Value} {s:Fr} {y:DataW Unit×List MemPlace} (hf:Rd1 (fun _=>()) w base spare held fuel 121 cs y)
    (hy:y.1= .agg [.lit (.string s.op),.lit (.string s.first),.lit (.string s.second),.lit (.string s.other),.lit (.string s.last)]):cs= [txt s.op,txt s.first,txt s.second,txt s.other,txt s.last]:=by
  obtain⟨f0,f1,f2,f3,f4,hu,⟨t0,o0⟩,⟨t1,o1⟩,⟨t2,o2⟩,⟨t3,o3⟩,⟨t4,o4⟩⟩:=frame_struct;obtain⟨y0,y1,y2,y3,y4,n,hx,hl,h0,h1,h2,h3,h4⟩:=read_struct5 hu hf;rw[hx]at hy;simp only[DataW.agg.injEq,List.cons.injEq,and_true]at hy;obtain⟨g0,g1,g2,g3,g4⟩:=hy;rw[sw_cells.1]at hl;rw[t0,o0,sw_cells.2.1]at h0;rw[t1,o1,sw_cells.2.1]at h1;rw[t2,o2,sw_cells.2.1]at h2;rw[t3,o3,sw_cells.2.1]at h3;rw[t4,o4,sw_cells.2.1]at h4
  match cs,hl with
  | [c0,c1,c2,c3,c4],_=>
    simp only[List.drop_zero,List.drop_succ_cons,List.take_succ_cons,List.take_zero]at h0 h1 h2 h3 h4;obtain⟨z0,q0,x0, -⟩:=DataW.trod_string Tryz.underlying9 h0;obtain⟨z1,q1,x1, -⟩:=DataW.trod_string Tryz.underlying9 h1;obtain⟨z2,q2,x2, -⟩:=DataW.trod_string Tryz.underlying9 h2;obtain⟨z3,q3,x3, -⟩:=DataW.trod_string Tryz.underlying9 h3;obtain⟨z4,q4,x4, -⟩:=DataW.trod_string Tryz.underlying9 h4;subst x0 x1 x2 x3 x4;rw[one_lit q0 g0.symm,one_lit q1 g1.symm,one_lit q2 g2.symm,one_lit q3 g3.symm,one_lit q4 g4.symm];rfl
theorem fcells_get:∀(l:List Fr) (k i:Nat) (s:Fr),l[k]? =some s→i<5→(l.flatMap fun f=> [txt f.op,txt f.first,txt f.second,txt f.other,txt f.last])[k*5+i]? = [txt s.op,txt s.first,txt s.second,txt s.other,txt s.last][i]?
  | [],_,_,_,h,_=>by simp at h
  |a::l,0,i,s,h,hi=>by
    obtain rfl:=Option.some.inj h;rw[List.flatMap_cons,Nat.zero_mul,Nat.zero_add,List.getElem?_append_left (by simpa using hi)]
  |a::l,k+1,i,s,h,hi=>by
    rw[List.flatMap_cons,List.getElem?_append_right (by simp;omega)];have:=fcells_get l k i s h hi;rw[←this]
    congr 1
    simp;omega
set_option maxRecDepth 100000 in
theorem frames_of_reads {w : World} (h : Lib.VarReads Tryz.prog w "lazarus/show.frames" Rows.laid_lazarus_show_frames) : Frames w := by
  obtain⟨g,t,cs,fuel,p,hg,hty,hvar,hd⟩:=h;obtain rfl:=Option.some.inj (frame_named.symm.trans hg);obtain rfl:=Option.some.inj (frame_type.symm.trans hty);rw[frame_data]at hd;intro j v hj;have hjl:j<60:=(List.getElem?_eq_some_iff.1 hj).1;have hk:j/5<framesL.length:=(by show j/5<12;omega);have hs:framesL[j/5]? =some (framesL[j/5]):=List.getElem?_eq_getElem hk;have e:j/5*5+j % 5=j:=(by omega);obtain⟨fuel',d,q,hdi,he⟩:=Lib.array_elem Tryz.underlying122 hd (j/5) hk;rw[List.getElem?_map,hs]at hdi;have hr:=frame_read he (Option.some.inj hdi).symm;rw[sw_cells.1]at hr;have h1:=congrArg (·[j % 5]?) hr;simp only[List.getElem?_take,List.getElem?_drop,show j % 5<5 by omega,if_true]at h1;have h2:=fcells_get framesL (j/5) (j % 5) _ hs (by omega);rw[e]at h1 h2;have hv:=World.var?_cell hg hvar j;rw[Nat.zero_add,hv,←Array.getElem?_toList,h1,←h2];exact hj
theorem words_of_laidH {W:World} (h:laidMetH Tryz.prog wordsL W):Shapes W∧Tabs W∧Frames W:=by
  rw[MakeChecks.laidMetH_plain _ _ _ (by kernel_rfl)]at h;refine⟨shapes_of_reads (Lib.laidMet.reads h (by simp[wordsL])),?_,frames_of_reads (Lib.laidMet.reads h (by simp[wordsL]))⟩
  have h3 := Lib.laidMet.reads h (n := "unicode/utf8.first") (d := Rows.laid_unicode_utf8_first) (by simp [wordsL])
  have h4 := Lib.laidMet.reads h (n := "unicode/utf8.acceptRanges") (d := Rows.laid_unicode_utf8_acceptRanges) (by simp [wordsL])
  rw[first_is]at h3;rw[accept_is]at h4;exact utf8Tabs_of_reads lays260 extra h3 h4
section
variable {H : Type}
theorem bulk_one (d:DataW H):1≤Rows.uptoBulk d:=by
  cases d with
  |lit l=>cases l<;>simp[Rows.uptoBulk]
  |_=>simp[Rows.uptoBulk]
theorem bulk_sum:∀(l:List (DataW H)),(l.map Rows.uptoBulk).sum=Rows.uptoBulkAll l
  | []=>rfl
  |x::r=>by rw[List.map_cons,List.sum_cons,bulk_sum r];rfl
theorem bulk_mem {d:DataW H} :∀ {l:List (DataW H)},d∈l→Rows.uptoBulk d≤Rows.uptoBulkAll l
  |x::r,h=>by
    simp only[Rows.uptoBulkAll]
    rcases List.mem_cons.1 h with rfl|h
    · omega
    · have:=bulk_mem h;omega
theorem bulk_text (l:List UInt8):Rows.uptoBulk (DataW.lit (H:=H) (.string l))=l.length+1:=by simp[Rows.uptoBulk]
theorem bulk5 (a b c d e:DataW H):Rows.uptoBulk (.agg [a,b,c,d,e])=Rows.uptoBulk a+Rows.uptoBulk b+Rows.uptoBulk c+Rows.uptoBulk d+Rows.uptoBulk e+1:=by
  simp only[Rows.uptoBulk,Rows.uptoBulkAll];omega
end
theorem esc_len:∀l:List UInt8,(escT l).length≤2*l.length
  | []=>Nat.zero_le _
  |c::r=>by
    have:=esc_len r;rw[escT]
    split<;>simp<;>omega
theorem part_len (row:List Pt→List UInt8) (p:Pt) (b:Nat) (h:(row p.word).length≤2*b) (hb:1≤b):(partS row p).length≤2*(1+(p.text.length+1)+(p.op.length+1)+b+1):=by
  have:=esc_len p.text;unfold partS bareS quotedT
  repeat' split
  all_goals simp<;>omega
section
variable {H : Type} {enc : TypeId × Value → H} {W : World}
abbrev Rd0 (enc:TypeId×Value→H) (W:World) (fuel:Nat) (t:TypeId) (cs:List Value) (x:DataW H×List MemPlace):Prop:=Rd1 enc W 0 (fun _=>true) true fuel t cs x
structure Sp (W:World) (x:Pt×Value×Nat) (cs:List Value):Prop where
  cells:cs=pcells x.1 x.2.1
  word:PsAt W x.2.1 x.1.word
  text:x.1.text.length≤1048576
  small:Small x.1.word
  len:∀k,(partS (rowS k) x.1).length≤2*x.2.2
theorem sl_list {a:Addr} {f:Nat→Nat} :∀(len:Nat),(∀i,i<len→∃(y:Pt×Value×Nat) (cs:List Value),cs.length=5∧(∀k,k<5→W.cell? ((a.add (i*5)).add k)=cs[k]?)∧Sp W y cs∧y.2.2≤f i)→
    ∃l:List (Pt×Value×Nat),l.length=len∧(l.map (·.2.2)).sum≤((List.range len).map f).sum∧∀i y,l[i]? =some y→∃cs:List Value,cs.length=5∧(∀k,k<5→W.cell? ((a.add (i*5)).add k)=cs[k]?)∧Sp W y cs
  |0,_=>⟨[],rfl,Nat.le_refl _,fun i y h=>by simp at h⟩
  |len+1,h=>by
    obtain⟨l,hl,hs,hh⟩:=sl_list len fun i hi=>h i (by omega);obtain⟨y,cs,h1,h2,h3,h4⟩:=h len (by omega);refine⟨l++ [y],by simp[hl],?_,fun i z hz=> ?_⟩
    · rw[List.range_succ];simp;omega
    by_cases hi:i<len
    · rw[List.getElem?_append_left (by omega)]at hz
      exact hh i z hz
    · have hi2:i<(l++ [y]).length:=(List.getElem?_eq_some_iff.1 hz).1
      rw[List.length_append,List.length_singleton,hl]at hi2;obtain rfl:i=len:=(by omega);rw[List.getElem?_append_right (by omega),hl,Nat.sub_self]at hz;obtain rfl:=Option.some.inj hz;exact⟨cs,h1,h2,h3⟩
theorem add_cell (b o n:Nat):(⟨b,o,none⟩:Addr).add n=⟨b,o+n,none⟩:=by
  unfold Addr.add
  split
  · rename_i h;subst h;rfl
  · rfl
theorem text_read {fuel:Nat} {c:Value} {x:DataW H×List MemPlace} (h:Rd0 enc W fuel 9 [c] x):∃l:List UInt8,c=txt l∧l.length+1=Rows.uptoBulk x.1:=by
  obtain⟨s,hs,hx, -⟩:=DataW.trod_string Tryz.underlying9 h;obtain rfl:c= .string s:=(by simpa using hs);refine⟨s.data.toList,rfl,?_⟩;rw[hx];show _=Rows.uptoBulk (DataW.lit (.string s.data.toList));rw[bulk_text]
theorem ps_read:∀(B fuel:Nat) (v:Value) (x:DataW H×List MemPlace),Rows.uptoBulk x.1≤B→B≤1048576→Rd0 enc W fuel 43 [v] x→∃ps,PsAt W v ps∧Small ps∧∀k,(rowS k ps).length≤2*Rows.uptoBulk x.1
  |0,_,_,x,h,_,_=>by have:=bulk_one x.1;omega
  |B+1,fuel,v,x,hB,hM,hf=>by
    rcases open_slice Tryz.underlying43 hf with ⟨hcs, -⟩|⟨a,len,cap,m,n,D,Pl,hcs, -,hl,hm,hmm,hxx,hx⟩
    · obtain rfl:v= .slice none 0 0:=by simpa using hcs
      exact⟨[],PsAt.nil W 0,Small.nil,fun k=>by cases k<;>simp[rowS]⟩
    obtain rfl:v= .slice (some a) len cap:=(by simpa using hcs);have hmc:m=cap:=(by rw[hmm];rfl);have hx1:x.1= .slice ((List.range len).map D) ((List.range (m-len)).map fun j=>D (len+j)):=(by rw[hxx])
    have hsum:((List.range len).map fun i=>Rows.uptoBulk (D i)).sum<Rows.uptoBulk x.1:=by
      have:=bulk_sum ((List.range len).map D);rw[List.map_map]at this;rw[hx1];simp only[Rows.uptoBulk];rw[←this];show(List.map (Rows.uptoBulk ∘ D) _).sum<_;omega
    have hone:∀i,i<len→Rows.uptoBulk (D i)<Rows.uptoBulk x.1:=fun i hi=>by
      have:=bulk_mem (l:=(List.range len).map D) (List.mem_map.2 ⟨i,List.mem_range.2 hi,rfl⟩);rw[hx1];simp only[Rows.uptoBulk];omega
    obtain⟨l,hll,hls,hh⟩:=sl_list (W:=W) (a:=a) (f:=fun i=>Rows.uptoBulk (D i)) len fun i hi=>by
      obtain⟨cs,h1,hr⟩:=hx i (by omega);rw[sw_cells.2.2.1]at h1;obtain⟨-,hc3,hc4⟩:=World.cells?_some h1;obtain⟨f0,f1,f2,f3,f4,hu,⟨t0,o0⟩,⟨t1,o1⟩,⟨t2,o2⟩,⟨t3,o3⟩,⟨t4,o4⟩⟩:=part_struct;obtain⟨y0,y1,y2,y3,y4,m,hy,hlen,h0,h1,h2,h3,h4⟩:=read_struct5 hu hr;have hy:D i= .agg [y0.1,y1.1,y2.1,y3.1,y4.1]:=hy;rw[sw_cells.2.2.1]at hlen;rw[t0,o0,sw_cells.2.2.2.2.1]at h0;rw[t1,o1,sw_cells.2.1]at h1;rw[t2,o2,sw_cells.2.1]at h2;rw[t3,o3,sw_cells.2.2.2.2.2.2]at h3;rw[t4,o4,sw_cells.2.2.2.2.2.1]at h4
      match cs,hlen with
      | [c0,c1,c2,c3,c4],_=>
        simp only[List.drop_zero,List.drop_succ_cons,List.take_succ_cons,List.take_zero]at h0 h1 h2 h3 h4;obtain⟨z,hz, -, -⟩:=DataW.trod_int Tryz.underlying3 h0;obtain⟨tx,rfl,htx⟩:=text_read h1;obtain⟨op,rfl,hop⟩:=text_read h2;obtain⟨q,hq, -⟩:=DataW.trod_bool Tryz.underlying4 h4;obtain rfl:c0= .int .i64 z:=(by simpa using hz);obtain rfl:c4= .bool q:=(by simpa using hq);have hb:=hone i hi;have e5:Rows.uptoBulk (D i)=_:=(congrArg Rows.uptoBulk hy).trans (bulk5 _ _ _ _ _);have u0:=bulk_one y0.1;have u3:=bulk_one y3.1;have u4:=bulk_one y4.1;obtain⟨wd,h5,h6,h7⟩:=ps_read B m c3 y3 (by omega) (by omega) h3;refine⟨(⟨z,tx,op,wd,q⟩,c3,Rows.uptoBulk (D i)),_,hc3,hc4,{ cells:=rfl,word:=h5,text:=by show tx.length≤_;omega,small:=h6,len:=fun k=> ?_ },Nat.le_refl _⟩;have:=part_len (rowS k) ⟨z,tx,op,wd,q⟩ _ (h7 k) u3;refine Nat.le_trans this ?_;show 2*(1+(tx.length+1)+(op.length+1)+Rows.uptoBulk y3.1+1)≤2*Rows.uptoBulk (D i);omega
    have hfew:l.length≤maxLen:=by omega
    have hspot:0<l.length→a.spot=none:=fun hl0=>by
      obtain⟨cs0,g1,g2, -⟩:=hh 0 _ (List.getElem?_eq_getElem hl0);have h0:=g2 0 (by decide);have hc:cs0[0]? =some (cs0[0]'(by omega)):=List.getElem?_eq_getElem _;rw[hc,Nat.zero_mul]at h0;have:=World.cell?_spot h0
      simpa [Addr.add]using this
    have get:∀ {k:Nat} {q:Pt},(l.map (·.1))[k]? =some q→∃u m,l[k]? =some (q,u,m):=fun {k q} hq=>by
      rw[List.getElem?_map]at hq
      cases hk:l[k]? with
      |none=>rw[hk]at hq;cases hq
      |some y=>rw[hk]at hq;obtain rfl:=Option.some.inj hq;exact⟨y.2.1,y.2.2,rfl⟩
    have get2:∀ {k:Nat} {q:Pt} {u:Value},(l.map (·.1))[k]? =some q→(l.map (·.2.1))[k]? =some u→∃cs m,cs.length=5∧(∀i,i<5→W.cell? ((a.add (k*5)).add i)=cs[i]?)∧Sp W (q,u,m) cs:=fun {k q u} hq hu=>by
      obtain⟨u',m,hk⟩:=get hq;rw[List.getElem?_map,hk]at hu;obtain rfl:=Option.some.inj hu;obtain⟨cs,e1,e2,e3⟩:=hh k _ hk;exact⟨cs,m,e1,e2,e3⟩
    refine⟨l.map (·.1),?_,.mk _ (fun q hq=> ?_) fun q hq=> ?_,fun k=> ?_⟩
    · have:=PsAt.mk (w:=W) (some a) cap (l.map (·.1)) (l.map (·.2.1)) (by simp) (by simpa using hfew) (fun k q u hq hu=>by
        have hl0:0<l.length:=(by have:=(List.getElem?_eq_some_iff.1 hq).1;rw[List.length_map]at this;omega);obtain⟨cs,m, -,e2,e3⟩:=get2 hq hu;obtain⟨b,o,spot⟩:=a;obtain rfl:spot=none:=hspot hl0;refine⟨b,o,rfl,fun i z hz=> ?_⟩;have hi:i<5:=(List.getElem?_eq_some_iff.1 hz).1;have:=(e2 i hi).trans ((congrArg (·[i]?) e3.cells).trans hz)
        rwa [add_cell,add_cell]at this) (fun k q u hq hu=>by
        obtain⟨cs,m, -, -,e3⟩:=get2 hq hu
        exact e3.word)
      rwa [List.length_map,hll]at this
    · obtain⟨y,hy,rfl⟩:=List.mem_map.1 hq
      obtain⟨k,hk⟩:=List.mem_iff_getElem?.1 hy;obtain⟨cs, -, -,e⟩:=hh k y hk;exact e.text
    · obtain⟨y,hy,rfl⟩:=List.mem_map.1 hq
      obtain⟨k,hk⟩:=List.mem_iff_getElem?.1 hy;obtain⟨cs, -, -,e⟩:=hh k y hk;exact e.small
    · cases k with
      |zero=>exact Nat.zero_le _
      |succ k=>
        have hle:∀y∈l,(partS (rowS k) y.1).length≤2*y.2.2:=fun y hy=>by
          obtain⟨j,hj⟩:=List.mem_iff_getElem?.1 hy;obtain⟨cs, -, -,e⟩:=hh j y hj;exact e.len k
        have hle2:∀l':List (Pt×Value×Nat),(∀y∈l',(partS (rowS k) y.1).length≤2*y.2.2)→(rowS (k+1) (l'.map (·.1))).length≤2*(l'.map (·.2.2)).sum:=fun l'=>by
          induction l' with
          |nil=>intro _;exact Nat.zero_le _
          |cons y r ih=>
            intro h;have h1:=h y (by simp);have h2:=ih fun x hx=>h x (List.mem_cons_of_mem _ hx);have e:rowS (k+1) ((y::r).map (·.1))=partS (rowS k) y.1++rowS (k+1) (r.map (·.1)):=rfl;rw[e,List.length_append,List.map_cons,List.sum_cons];omega
        have:=hle2 l hle;omega
set_option maxRecDepth 100000 in
theorem word_open {base:Nat} {v:Value} {d:DataW H} {ps:List MemPlace} (hv:Value.okWide Tryz.prog W .any base 45 v) (h:DataW.Trod enc Tryz.prog W 0 (fun _=>true) true 45 v d ps) (hB:Rows.uptoBulk d≤1048576):
    ∃(l:List Pt) (u:Value),v=wordV u∧PsAt W u l∧Small l∧(wordS l).length≤BigW:=by
  obtain⟨f0,hu,⟨t0,o0⟩⟩:=word_struct;obtain⟨cs,rfl,hsz⟩:=okWide_struct hu hv;obtain⟨fuel,hf⟩:=h;obtain⟨xs,n,_,hx,hl,hlen,hff⟩:=DataW.trod_struct hu hf
  match xs,hlen with
  | [y0],_=>
    rw[sw_cells.2.2.2.1]at hl hsz
    obtain⟨c0,rfl⟩:∃c,cs= #[c]:=by
      obtain⟨cs⟩:=cs
      match cs,hsz with
      | [c],_=>exact⟨c,rfl⟩
    have h0:Rd0 enc W n 43 [c0] y0:=by
      have h0:=hff 0 f0 rfl;rw[t0,o0,sw_cells.2.2.2.2.2.2]at h0
      simpa [Value.cells]using h0
    have hx1:d= .agg [y0.1]:=congrArg Prod.fst hx;have b0:Rows.uptoBulk y0.1<Rows.uptoBulk d:=(by rw[hx1];simp only[Rows.uptoBulk,Rows.uptoBulkAll];omega);obtain⟨l,h1,h2,h3⟩:=ps_read 1048576 n c0 y0 (by omega) (by omega) h0;refine⟨l,c0,rfl,h1,h2,?_⟩;have:=h3 22;show(rowS 22 l).length≤BigW;unfold BigW;omega
end
end Go.Proofs.YtcpmjkefbjbhpaaGreatDoor
