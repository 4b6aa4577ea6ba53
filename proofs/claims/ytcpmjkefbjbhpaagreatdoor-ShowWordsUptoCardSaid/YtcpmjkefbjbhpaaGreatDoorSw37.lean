/-
  Proved: contracts of functions, plain facts. Conditions: as each says.
-/
import Derived.Test.YtcpmjkefbjbhpaaGreatDoorRows
import Derived.Deep.RegionHeld
import Derived.Test.YtcpmjkefbjbhpaaGreatDoorLexCore
import Derived.Test.YtcpmjkefbjbhpaaGreatDoorSw01
import Derived.Test.YtcpmjkefbjbhpaaGreatDoorSw05
import Derived.Deep.QuietTactic
import Derived.BigQuiet
import Derived.LoopTactic
import Derived.Test.YtcpmjkefbjbhpaaGreatDoorSw00
namespace Go.Proofs.YtcpmjkefbjbhpaaGreatDoor
open Go
section
variable {P : Program} {ops : Array Oper} {Q : Exit → Act → World → Prop} {md : Region.Mode} {S : World → Prop}
theorem takeW {i k:Nat} {oi:Oper} {v:Value} {fuel:Nat} {listed:Array Bool} {a:Act} {w:World} (hi:ops[i]? =some oi) (hk:oi.dst=some k)
    (hs:Region.noSelect ops=true) (hf:Region.free md ops listed i=true) (hr:(Region.ready md ops listed).contains i=true)
    (hQ:∀c a w,Q (.panic c) (a.put oi.dst v) w→Q (.panic c) a w) (hw:Region.wanted oi (yielded ops a.tmps)=true)
    (hy:∀w,S w→(execOp a.eval oi).run P w= .ok (.value v) w) (hS:S w)
    (h:wpAnyH P md ops Q S fuel (listed.setIfInBounds i true) { a with tmps:=a.tmps.setIfInBounds k v } w):wpAnyH P md ops Q S (fuel+1) listed a w:=
  wpAnyH_take hi hs hf hr hQ (Or.inl ⟨hw,hy⟩) hS (by rw[hk];exact h)
theorem takeN {i k:Nat} {oi:Oper} {fuel:Nat} {listed:Array Bool} {a:Act} {w:World} (hi:ops[i]? =some oi) (hk:oi.dst=some k)
    (hs:Region.noSelect ops=true) (hf:Region.free md ops listed i=true) (hr:(Region.ready md ops listed).contains i=true)
    (hQ:∀c a w,Q (.panic c) (a.put oi.dst undef) w→Q (.panic c) a w) (hw:Region.wanted oi (yielded ops a.tmps)=false) (hS:S w)
    (h:wpAnyH P md ops Q S fuel (listed.setIfInBounds i true) { a with tmps:=a.tmps.setIfInBounds k undef } w):wpAnyH P md ops Q S (fuel+1) listed a w:=
  wpAnyH_take hi hs hf hr hQ (Or.inr ⟨hw,rfl⟩) hS (by rw[hk];exact h)
end
section
variable {P : Program} {ops : Array Oper} {Q : Exit → Act → World → Prop} {md : Region.Mode} {S : World → Prop}
theorem tkW (i k:Nat) {oi:Oper} {fuel:Nat} {listed:Array Bool} {a:Act} {w:World} (hi:ops[i]? =some oi) (hk:oi.dst=some k) (v:Value) (hy:∀w,S w→(execOp a.eval oi).run P w= .ok (.value v) w)
    (h:wpAnyH P md ops Q S fuel (listed.setIfInBounds i true) { a with tmps:=a.tmps.setIfInBounds k v } w) (hs:Region.noSelect ops=true:=by kernel_rfl) (hf:Region.free md ops listed i=true:=by kernel_rfl) (hr:(Region.ready md ops listed).contains i=true:=by kernel_rfl)
    (hQ:∀c a w,Q (.panic c) (a.put oi.dst v) w→Q (.panic c) a w:=by exact fun _ _ _ h=>h) (hw:Region.wanted oi (yielded ops a.tmps)=true:=by rfl) (hS:S w:=by assumption):wpAnyH P md ops Q S (fuel+1) listed a w:=takeW hi hk hs hf hr hQ hw hy hS h
theorem cW (i:Nat) {o:Oper} {fuel:Nat} {listed:Array Bool} {a:Act} {w:World} (ho:ops[i]? =some o)
    (h:∀K':Act→World→Prop,Shut (∀a w,S w→(S w→wpAnyH P md ops Q S fuel (listed.setIfInBounds i true) a w)→K' a w)→if Region.wanted o (yielded ops a.tmps)=true then Oper.wp P o a w K' Q else K' (a.put o.dst undef) w) (hr:Region.ready md ops listed= [i]:=by kernel_rfl):wpAnyH P md ops Q S (fuel+1) listed a w:=
  wpAnyH_ready hr (by simp) (AllReadyH.cons ho h AllReadyH.nil)
end
end Go.Proofs.YtcpmjkefbjbhpaaGreatDoor
namespace Go.Proofs.YtcpmjkefbjbhpaaGreatDoor
open Go Go.RowKit GlyphMath LexMath
structure TabsX (w:World) (X:Nat):Prop where
  tabs:Tabs w
  l3:3<X
  l4:4<X
theorem Tabs.kept {D:Nat→Prop} {w w':World} (h:Tabs w) (hk:Kept D w w') (h3:¬D 3) (h4:¬D 4):Tabs w':=
  ⟨fun c hc=>hk.cell (h.1 c hc) h3,fun i hi=>⟨hk.cell (h.2 i hi).1 h4,hk.cell (h.2 i hi).2 h4⟩⟩
theorem TabsX.kept {D:Nat→Prop} {w w':World} {X:Nat} (h:TabsX w X) (hk:Kept D w w') (hD:∀k,k<X→¬D k):TabsX w' X:=
  ⟨h.tabs.kept hk (hD _ h.l3) (hD _ h.l4),h.l3,h.l4⟩
structure Lx (w:World) (X:Nat) (s:ByteArray) (i e:Int):Prop where
  blk:w.heap[X]? =some (.cells #[.string s,.int .i64 i,.int .i64 e] 94 (0,0))
  tabs:TabsX w X
theorem Lx.c0 {w:World} {X:Nat} {s:ByteArray} {i e:Int} (h:Lx w X s i e):w.cell? ⟨X,0,none⟩=some (.string s):=by rw[cell_plain h.blk];rfl
theorem Lx.c1 {w:World} {X:Nat} {s:ByteArray} {i e:Int} (h:Lx w X s i e):w.cell? ⟨X,1,none⟩=some (.int .i64 i):=by rw[cell_plain h.blk];rfl
theorem Lx.c2 {w:World} {X:Nat} {s:ByteArray} {i e:Int} (h:Lx w X s i e):w.cell? ⟨X,2,none⟩=some (.int .i64 e):=by rw[cell_plain h.blk];rfl
theorem Lx.fz {w:World} {X:Nat} {s:ByteArray} {i e:Int} (h:Lx w X s i e) (o:Nat):w.frozen? ⟨X,o,none⟩=false:=frozen_plain h.blk o
theorem Lx.lt {w:World} {X:Nat} {s:ByteArray} {i e:Int} (h:Lx w X s i e):X<w.heap.size:=(gS.1 h.blk).1
theorem Lx.kept {D:Nat→Prop} {w w':World} {X:Nat} {s:ByteArray} {i e:Int} (h:Lx w X s i e) (hk:Kept D w w') (hX:∀k,k≤X→¬D k):Lx w' X s i e:=⟨hk.heap h.blk (hX X (Nat.le_refl _)),h.tabs.kept hk fun k hk=>hX k (Nat.le_of_lt hk)⟩
theorem Lx.put1 {w:World} {X:Nat} {s:ByteArray} {i e:Int} (h:Lx w X s i e) (j:Int):Lx (w.setCell ⟨X,1,none⟩ (.int .i64 j)) X s j e:=by
  refine⟨?_,h.tabs.kept (Kept.setCell (D:=fun k=>k=X) (Kept.refl _ _) (.inl rfl) _) fun k hk=>by omega⟩;have h:=h.blk;simp[World.setCell,Array.getElem?_modify,h]
theorem Lx.put2 {w:World} {X:Nat} {s:ByteArray} {i e:Int} (h:Lx w X s i e) (j:Int):Lx (w.setCell ⟨X,2,none⟩ (.int .i64 j)) X s i j:=by
  refine⟨?_,h.tabs.kept (Kept.setCell (D:=fun k=>k=X) (Kept.refl _ _) (.inl rfl) _) fun k hk=>by omega⟩;have h:=h.blk;simp[World.setCell,Array.getElem?_modify,h]
theorem Lx.drewN {w:World} {X:Nat} {s:ByteArray} {i e:Int} (h:Lx w X s i e) (m:Nat):Lx (w.drewN m) X s i e:=
  ⟨h.blk,h.tabs.kept (D:=fun _=>False) ⟨rfl,rfl,rfl,Nat.le_refl _,fun _ _ _=>rfl⟩ fun _ _ h=>h⟩
theorem Kept.drewN {D:Nat→Prop} {a w:World} (h:Kept D a w) (m:Nat):Kept D a (w.drewN m):=⟨h.os,h.tape,h.output,h.size,h.block⟩
theorem rfail_no {w:World} {X:Nat} {s:ByteArray} {i:Int} (h:Lx w X s i 0) (c:Int):
    Calls Tryz.prog 43 #[.pointer (some ⟨X,0,none⟩),.int .i64 c] w fun e w'=>e= .returned (.tuple #[])∧Lx w' X s i c∧Kept (fun k=>k=X) w w':=by
  have c2:=h.c2;have f2:=h.fz 2;have HH:=yH h;clear h;go_enter Tryz.func43,Tryz.ntmps43;go_wp2_with fail
  go_end0
  exact⟨rfl,HH.out.put2 c,Kept.setCell (D:=fun k=>k=X) (Kept.refl _ _) (.inl rfl) _⟩
theorem rfail_yes {w:World} {X:Nat} {s:ByteArray} {i c:Int} (h:Lx w X s i c) (hc:(c==0)=false) (d:Int):
    Calls Tryz.prog 43 #[.pointer (some ⟨X,0,none⟩),.int .i64 d] w fun e w'=>e= .returned (.tuple #[])∧w=w':=by
  have c2:=h.c2;clear h;go_enter Tryz.func43,Tryz.ntmps43;go_wp2_with fail
  go_end0
  exact⟨rfl,rfl⟩
theorem rat_err {w:World} {X:Nat} {s:ByteArray} {i c:Int} (h:Lx w X s i c) (hc:(c !=0)=true) (d:Int):
    Calls Tryz.prog 85 #[.pointer (some ⟨X,0,none⟩),.int .i64 d] w fun e w'=>e= .returned (.int .u8 0)∧∃m,w'=w.drewN m:=by
  have c2:=h.c2;clear h;go_enter Tryz.func85,Tryz.ntmps85;go_wp2_with fail
  go_quiet (fail)
  go_wp2_with fail;go_ret;exact⟨rfl,_,rfl⟩
theorem rat_any {w:World} {X:Nat} {s:ByteArray} {i:Nat} (h:Lx w X s (i:Int) 0) (k:Nat) (hi:i+k≤1000000):
    Calls Tryz.prog 85 #[.pointer (some ⟨X,0,none⟩),.int .i64 (k:Int)] w fun e w'=>e= .returned (.int .u8 (byteAt s (i+k):Int))∧∃m,w'=w.drewN m:=by
  have c0:=h.c0;have c1:=h.c1;have c2:=h.c2;obtain⟨b,hb⟩:∃b,byteAt s (i+k)=b:=⟨_,rfl⟩;rw[hb];have e1:IntKind.i64.wrap ((i:Int)+(k:Int))=(i:Int)+(k:Int):=IntWalk.i64_in _ ⟨by omega,by omega⟩
  by_cases hlt:i+k<s.size
  · have h1:((i:Int)+(k:Int))<(s.size:Int):=by omega
    have h2:0≤(i:Int)+(k:Int):=by omega
    have hix:∀W,(Instr.index 9 (.string s) (.int .i64 ((i:Int)+(k:Int)))).run Tryz.prog W= .ok (.int .u8 (b:Int)) W:=fun W=>by
      rw[run_index_string W 9 s .i64 _ Tryz.underlying9,dif_pos ⟨h2,h1⟩,←hb,byteAt_in hlt];simp only[show ((i:Int)+(k:Int)).toNat=i+k by omega]
    clear h hb hlt;go_enter Tryz.func85,Tryz.ntmps85;go_wp2_with fail
    go_quiet (fail)
    go_wp2_with fail
    go_quiet (fail)
    go_wp2_with fail;go_ret;exact⟨rfl,_,by rw[World.drewN_drewN]⟩
  · have h1:¬((i:Int)+(k:Int))<(s.size:Int):=by omega
    have hb0:b=0:=(by rw[←hb];exact byteAt_out (by omega));clear h hb hlt;subst hb0;go_enter Tryz.func85,Tryz.ntmps85;go_wp2_with fail
    go_quiet (fail)
    go_wp2_with fail;go_ret;exact⟨rfl,_,rfl⟩
theorem conv_u8 (b:Nat) (hb:b<256):IntKind.i32.wrap (b:Int)=(b:Int):=by
  rw[IntKind.wrap_i32];omega
theorem rspecial_any (b:Nat) (w:World):
    Calls Tryz.prog 130 #[.int .u8 (b:Int)] w fun e w'=>e= .returned (.bool (other b))∧w=w':=by
  have hu:other b=(decide (49≤(b:Int)∧(b:Int)≤57)||((b:Int)==64||(b:Int)==35||(b:Int)==63)):=by
    unfold other;refine bool_iff ?_;simp;omega
  rw[hu];clear hu;go_enter Tryz.func130,Tryz.ntmps130;go_wp2_with fail
  all_goals
    go_ret;refine⟨ret_bool (bool_iff ?_),rfl⟩
    first|(simp;done)|(simp;omega)
def reckonN (b:Nat):Bool:=moreR b||(b==32||b==9||b==43||b==45||b==42||b==47||b==37||b==60||b==62||b==61||b==33)
theorem rreckon_any (b:Nat) (hb:b<256) (w:World):
    Calls Tryz.prog 121 #[.int .u8 (b:Int)] w fun e w'=>e= .returned (.bool (reckonN b))∧w=w':=by
  have hc:=conv_u8 b hb
  have hu:reckonN b=(moreR (b:Int)||((b:Int)==32||(b:Int)==9||(b:Int)==43||(b:Int)==45||(b:Int)==42||(b:Int)==47||(b:Int)==37||(b:Int)==60||(b:Int)==62||(b:Int)==61||(b:Int)==33)):=by
    unfold reckonN
    cases moreR (b:Int)
    · refine bool_iff ?_
      simp;omega
    · rfl
  rw[hu];clear hu;obtain⟨M,hM⟩:∃M,moreR (b:Int)=M:=⟨_,rfl⟩;rw[hM];have HM:=yH hM;clear hM hb
  cases M
  all_goals
    go_enter Tryz.func121,Tryz.ntmps121
    go_wp2_with (go_at_call 95;refine(rmore_any (b:Int) _).mono ?_;rintro e w1 ⟨rfl,rfl⟩;(try rw[HM.out]))
  all_goals
    go_ret;refine⟨ret_bool (bool_iff ?_),rfl⟩
    first|(simp;done)|(simp;omega)|(simp_all;done)
def metaN (b:Nat):Bool:=ends b false||begins b
theorem rmeta_any (b:Nat) (w:World):
    Calls Tryz.prog 91 #[.int .u8 (b:Int)] w fun e w'=>e= .returned (.bool (metaN b))∧w=w':=by
  have hu:metaN b=((b:Int)==32||(b:Int)==9||(b:Int)==10||(b:Int)==59||(b:Int)==38||(b:Int)==124||(b:Int)==40||(b:Int)==41||(b:Int)==60||(b:Int)==62||(b:Int)==39||(b:Int)==34||(b:Int)==36||(b:Int)==92):=by
    unfold metaN ends begins acts blankR;refine bool_iff ?_;simp;omega
  rw[hu];clear hu;go_enter Tryz.func91,Tryz.ntmps91;go_wp2_with fail
  all_goals
    go_ret;refine⟨ret_bool (bool_iff ?_),rfl⟩
    first|(simp;done)|(simp;omega)|(simp_all;done)
end Go.Proofs.YtcpmjkefbjbhpaaGreatDoor
namespace Go.Proofs.YtcpmjkefbjbhpaaGreatDoor
open Go
section
variable {P : Program} {ops : Array Oper} {Q : Exit → Act → World → Prop} {md : Region.Mode} {S : World → Prop} {L : Nat}
def wpAnyL (P:Program) (md:Region.Mode) (ops:Array Oper) (Q:Exit→Act→World→Prop) (S:World→Prop) (L:Nat):Nat→Array Bool→Act→World→Prop
  |0,listed,a,w=>Region.ready md ops listed= []∧Q .normal a w
  |fuel+1,listed,a,w=>
    (Region.ready md ops listed= []→Q .normal a w)∧
    ∀i∈Region.ready md ops listed,wpOp P ops Q i (fun a' w'=>((listed.setIfInBounds i true).getD L true=true∨S w')∧wpAnyL P md ops Q S L fuel (listed.setIfInBounds i true) a' w') a w
theorem wpAny_of_L:∀(fuel:Nat) (listed:Array Bool) (a:Act) (w:World),wpAnyL P md ops Q S L fuel listed a w→wpAny P md ops Q fuel listed a w
  |0,_,_,_,h=>h
  |fuel+1,_,_,_,h=>⟨h.1,fun i hi=>wpOp_mono (fun a' w' h'=>wpAny_of_L fuel _ a' w' h'.2) (h.2 i hi)⟩
theorem wpAnyL_first {i:Nat} {oi:Oper} {v:Value} (hi:ops[i]? =some oi) (hsel:∀(j:Nat) (o:Oper) cs b,ops[j]? =some o→o.op≠ .select cs b)
    (hQ:∀c a w,Q (.panic c) (a.put oi.dst v) w→Q (.panic c) a w) (hiL:i≠L) (hL:∀o,ops[L]? =some o→∃e∈o.after,Region.binds md e=true∧e.on=i):
    ∀(fuel:Nat) (listed:Array Bool) (a:Act) (w:World),
      (∀j oj,ops[j]? =some oj→j≠i→listed.getD j true=false→(∀e∈oj.after,Region.binds md e=true→e.on≠i)→oi.apart ops oj=true)→
      listed.getD L true=false→i∈Region.ready md ops listed→YieldsIf P ops S oi v a→S w→
      wpAnyL P md ops Q S L fuel (listed.setIfInBounds i true) (a.put oi.dst v) w→wpAnyL P md ops Q S L (fuel+1) listed a w:=by
  intro fuel
  induction fuel with
  |zero=>
    intro listed a w _ _ hr hy hS H;refine⟨fun h=>(by rw[h]at hr;cases hr),fun j hj=> ?_⟩
    by_cases hji:j=i
    · subst hji;exact hy.wpOp hi hS ⟨.inr hS,H⟩
    · have:=ready_mono hj hji
      rw[H.1]at this
      cases this
  |succ fuel ih=>
    intro listed a w hfree hl hr hy hS H;refine⟨fun h=>(by rw[h]at hr;cases hr),fun j hj=> ?_⟩
    by_cases hji:j=i
    · subst hji;exact hy.wpOp hi hS ⟨.inr hS,H⟩
    · have h1:=H.2 j (ready_mono hj hji)
      obtain⟨hjun,oj,hoj,hall⟩:=mem_ready.1 hj
      have hnot:∀e∈oj.after,Region.binds md e=true→e.on≠i:=fun e he hb heq=>by
        have h1:=hall e he hb;have h0:=(mem_ready.1 hr).1;rw[heq]at h1
        rcases Nat.lt_or_ge i listed.size with h'|h'
        · simp[h']at h0 h1;rw[h0]at h1;cases h1
        · simp[Array.getElem?_eq_none h']at h1
      have hjL:j≠L:=fun e=>by
        subst e;obtain⟨e,he,hb,heq⟩:=hL oj hoj;exact hnot e he hb heq
      have hl':(listed.setIfInBounds j true).getD L true=false:=(by rw[getD_set_ne true hjL];exact hl);have hl2:((listed.setIfInBounds i true).setIfInBounds j true).getD L true=false:=(by rw[getD_set_ne true hjL,getD_set_ne true hiL];exact hl);have h2:=wpOp_putIf hoj (hfree j oj hoj hji hjun hnot) (fun cs b=>hsel i oi cs b hi) (fun cs b=>hsel j oj cs b hoj) hQ hy h1
      have hfree':∀k ok,ops[k]? =some ok→k≠i→(listed.setIfInBounds j true).getD k true=false→
          (∀e∈ok.after,Region.binds md e=true→e.on≠i)→oi.apart ops ok=true:=fun k ok hk hki hun hno=>by
        refine hfree k ok hk hki ?_ hno
        by_cases hjk:j=k
        · subst hjk;exact hjun
        · rw[getD_set_ne true hjk]at hun;exact hun
      refine wpOp_mono (fun a' w' h3=> ?_) h2;have hS':S w':=h3.2.1.resolve_left (by rw[hl2];decide);refine⟨.inr hS',ih (listed.setIfInBounds j true) a' w' hfree' hl' (ready_mono hr (Ne.symm hji)) h3.1 hS' ?_⟩;rw[Array.setIfInBounds_comm _ _ hji];exact h3.2.2
def waitsFor (md:Region.Mode) (ops:Array Oper) (L i:Nat):Bool:=match ops[L]? with
  |some o=>o.after.any fun e=>Region.binds md e&&e.on==i
  |none=>true
theorem waitsFor_spec {i:Nat} (h:waitsFor md ops L i=true):∀o,ops[L]? =some o→∃e∈o.after,Region.binds md e=true∧e.on=i:=by
  intro o ho;unfold waitsFor at h;rw[ho]at h;simp only[Array.any_eq_true']at h;obtain⟨e,he,hb⟩:=h;rw[Bool.and_eq_true]at hb;exact⟨e,he,hb.1,by simpa using hb.2⟩
theorem takeL {i k:Nat} {oi:Oper} {v:Value} {fuel:Nat} {listed:Array Bool} {a:Act} {w:World} (hi:ops[i]? =some oi) (hk:oi.dst=some k)
    (hs:Region.noSelect ops=true) (hf:Region.free md ops listed i=true) (hr:(Region.ready md ops listed).contains i=true)
    (hQ:∀c a w,Q (.panic c) (a.put oi.dst v) w→Q (.panic c) a w) (hiL:(i !=L)=true) (hL:waitsFor md ops L i=true) (hl:listed.getD L true=false) (hw:Region.wanted oi (yielded ops a.tmps)=true)
    (hy:∀w,S w→(execOp a.eval oi).run P w= .ok (.value v) w) (hS:S w)
    (h:wpAnyL P md ops Q S L fuel (listed.setIfInBounds i true) { a with tmps:=a.tmps.setIfInBounds k v } w):wpAnyL P md ops Q S L (fuel+1) listed a w:=
  wpAnyL_first hi (Region.noSelect_spec hs) hQ (by simpa using hiL) (waitsFor_spec hL) fuel listed a w (Region.free_spec hi hf) hl (by simpa using hr) (Or.inl ⟨hw,hy⟩) hS (by rw[hk];exact h)
theorem nextL {i:Nat} {o:Oper} {fuel:Nat} {listed:Array Bool} {a:Act} {w:World} (hr:Region.ready md ops listed= [i]) (ho:ops[i]? =some o) (hw:Region.wanted o (yielded ops a.tmps)=true)
    (h:∀K:Act→World→Prop,Shut (∀a w,((listed.setIfInBounds i true).getD L true=true∨S w)→wpAnyL P md ops Q S L fuel (listed.setIfInBounds i true) a w→K a w)→Oper.wp P o a w K Q):wpAnyL P md ops Q S L (fuel+1) listed a w:=by
  refine⟨fun h0=>(by rw[hr]at h0;cases h0),fun j hj=> ?_⟩;rw[hr]at hj;obtain rfl:j=i:=(by simpa using hj)
  exact wpOp_step ho fun K' hK=>by
    rw[if_pos hw];exact h K' fun a w h1 h2=>hK a w ⟨h1,h2⟩
theorem doneL {listed:Array Bool} {a:Act} {w:World} (hr:Region.ready md ops listed= []) (h:Q .normal a w):∀fuel,wpAnyL P md ops Q S L fuel listed a w
  |0=>⟨hr,h⟩
  |_+1=>⟨fun _=>h,by rw[hr];simp⟩
theorem tkL (i k:Nat) {oi:Oper} {fuel:Nat} {listed:Array Bool} {a:Act} {w:World} (hi:ops[i]? =some oi) (hk:oi.dst=some k) (v:Value) (hy:∀w,S w→(execOp a.eval oi).run P w= .ok (.value v) w)
    (h:wpAnyL P md ops Q S L fuel (listed.setIfInBounds i true) { a with tmps:=a.tmps.setIfInBounds k v } w) (hs:Region.noSelect ops=true:=by kernel_rfl) (hf:Region.free md ops listed i=true:=by kernel_rfl) (hr:(Region.ready md ops listed).contains i=true:=by kernel_rfl)
    (hQ:∀c a w,Q (.panic c) (a.put oi.dst v) w→Q (.panic c) a w:=by exact fun _ _ _ h=>h) (hiL:(i !=L)=true:=by kernel_rfl) (hL:waitsFor md ops L i=true:=by kernel_rfl) (hl:listed.getD L true=false:=by kernel_rfl) (hw:Region.wanted oi (yielded ops a.tmps)=true:=by rfl) (hS:S w:=by assumption):
    wpAnyL P md ops Q S L (fuel+1) listed a w:=takeL hi hk hs hf hr hQ hiL hL hl hw hy hS h
theorem nxL (i:Nat) {o:Oper} {fuel:Nat} {listed:Array Bool} {a:Act} {w:World} (ho:ops[i]? =some o)
    (h:∀K:Act→World→Prop,Shut (∀a w,((listed.setIfInBounds i true).getD L true=true∨S w)→wpAnyL P md ops Q S L fuel (listed.setIfInBounds i true) a w→K a w)→Oper.wp P o a w K Q) (hr:Region.ready md ops listed= [i]:=by kernel_rfl) (hw:Region.wanted o (yielded ops a.tmps)=true:=by kernel_rfl):
    wpAnyL P md ops Q S L (fuel+1) listed a w:=nextL hr ho hw h
theorem regionL (S:World→Prop) (L:Nat) {id:Nat} {a:Act} {w:World} (hm:P.follows .mixedOrders=true) (hS:S w.drew)
    (h:S w.drew→wpAnyL P .any ops Q S L ops.size (Array.replicate ops.size false) a w.drew):(Code.region id ops true).wp P Q a w:=
  wp_region_any hm (wpAny_of_L _ _ _ _ (h hS))
end
end Go.Proofs.YtcpmjkefbjbhpaaGreatDoor
namespace Go.Proofs.YtcpmjkefbjbhpaaGreatDoor
open Go Go.Lib GlyphMath LexMath TreeMath
theorem teb_low {c:Nat} (h:c<128):eb c= [UInt8.ofNat c]:=by unfold eb;rw[if_pos h]
theorem eb_high {c:Nat} (h:¬c<128) (hc:c≤1114111):∀b∈eb c,128≤b.toNat:=by
  intro b hb;unfold eb at hb;rw[if_neg h]at hb
  split at hb
  · simp only[List.mem_cons,List.not_mem_nil,or_false]at hb
    rcases hb with rfl|rfl<;>rw[UInt8.toNat_ofNat']<;>omega
  · split at hb
    · simp only[List.mem_cons,List.not_mem_nil,or_false]at hb
      rcases hb with rfl|rfl|rfl<;>rw[UInt8.toNat_ofNat']<;>omega
    · simp only[List.mem_cons,List.not_mem_nil,or_false]at hb
      rcases hb with rfl|rfl|rfl|rfl<;>rw[UInt8.toNat_ofNat']<;>omega
theorem anyIn_append (a b cs:List UInt8):anyIn (a++b) cs=(anyIn a cs||anyIn b cs):=List.any_append
theorem any_enc {cs:List UInt8} (hcs:∀c∈cs,c.toNat<128):∀(l:List Nat),(∀c∈l,c≤1114111∧(c<128→cs.contains (UInt8.ofNat c)=false))→anyIn (enc l) cs=false
  | [],_=>rfl
  |c::r,h=>by
    rw[enc,anyIn_append,any_enc hcs r fun x hx=>h x (List.mem_cons_of_mem _ hx),Bool.or_false];have hc:=h c (by simp)
    by_cases h1:c<128
    · rw[teb_low h1]
      unfold anyIn;rw[List.any_cons,List.any_nil,Bool.or_false];exact hc.2 h1
    · unfold anyIn
      rw[List.any_eq_false];intro b hb;rw[not_in (eb_high h1 hc.1 b hb) hcs];simp
theorem got_mem (S:Nat→Bool):∀(xs:List Nat) (c:Nat),c∈got S xs→S c=false
  | [],_,h=>by cases h
  |a::r,c,h=>by
    unfold got at h
    cases hs:S a with
    |true=>rw[hs]at h;simp at h
    |false=>
      rw[hs]at h;simp only[Bool.false_eq_true,↓reduceIte,List.mem_cons]at h
      rcases h with rfl|h
      · exact hs
      · exact got_mem S r c h
theorem got_all {S:Nat→Bool} {xs:List Nat} (h:∀c∈xs,GoodL c):∀c∈got S xs,GoodL c:=fun c hc=>h c (by rw[←got_left S xs];exact List.mem_append_left _ hc)
theorem enc_nil {l:List Nat} (h:(enc l).isEmpty=true):l= []:=by
  have:=(enc_length l).1;rw[List.isEmpty_iff]at h;rw[h,List.length_nil]at this;exact List.eq_nil_of_length_eq_zero (by omega)
theorem tenc_text:∀(l:List Nat),(∀c∈l,GoodL c)→firstBad ⟨(enc l).toArray⟩=none
  | [],_=>rfl
  |c::r,h=>by
    have hc:=h c (by simp);have ih:=tenc_text r fun x hx=>h x (List.mem_cons_of_mem _ hx);have e:(⟨(enc (c::r)).toArray⟩:ByteArray)=⟨(eb c).toArray⟩++⟨(enc r).toArray⟩:=(by rw[bytes_append];rfl);rw[e,firstBad_append _ _ (firstBad_eb hc),ih];rfl
theorem textT_enc {l:List Nat} (h:∀c∈l,GoodL c):textT (enc l)=true:=by
  unfold textT isText;rw[show firstBad (T (enc l))=none from tenc_text l h];rfl
theorem textT_append {a b:List UInt8} (ha:textT a=true) (hb:textT b=true):textT (a++b)=true:=by
  unfold textT at ha hb ⊢;unfold isText at ha hb ⊢;rw[show T (a++b)=T a++T b from(bytes_append a b).symm];have h1:firstBad (T a)=none:=(by simpa using ha);have h2:firstBad (T b)=none:=(by simpa using hb);rw[firstBad_append _ _ h1,h2];rfl
theorem nameT_enc {l:List Nat} (h:∀c∈l,GoodL c):nameT (enc l)=nameL l:=by
  unfold nameT;rw[show letters (T (enc l))=l from letters_enc l h]
theorem side_append (f:Pt→Bool) (p:Pt):∀(ps:List Pt) (a:Option Pt),sideT f a (ps++ [p])=(sideT f a ps&&(f p&& !((ps.getLast?.or a).any fun x=>oneT x p)))
  | [],a=>by simp[sideT]
  |q::r,a=>by
    rw[List.cons_append,sideT,sideT,side_append f p r (some q)]
    have e:((q::r).getLast?.or a)=(r.getLast?.or (some q)):=by
      cases r with
      |nil=>rfl
      |cons b s=>rw[List.getLast?_cons_cons];cases h:(b::s).getLast? with
        |none=>simp at h
        |some x=>rfl
    rw[e,Bool.and_assoc,Bool.and_assoc]
structure Well (k:Nat) (wi:Bool) (ps:List Pt):Prop where
  side:sideT (partT (rowT k) wi) none ps=true
  small:∀p∈ps,Small p.word
theorem Well.nil (k:Nat) (wi:Bool):Well k wi []:=⟨rfl,fun _ h=>by cases h⟩
theorem Well.add {k:Nat} {wi:Bool} {ps:List Pt} (h:Well k wi ps) {p:Pt} (hp:partT (rowT k) wi p=true) (ho:∀x,oneT x p=false) (hs:Small p.word):Well k wi (ps++ [p]):=by
  refine⟨?_,fun x hx=> ?_⟩
  · rw[side_append,h.side,hp]
    have:((ps.getLast?.or none).any fun x=>oneT x p)=false:=by
      cases ps.getLast?.or none with
      |none=>rfl
      |some x=>exact ho x
    rw[this];rfl
  · rcases List.mem_append.1 hx with hx|hx
    · exact h.small x hx
    · obtain rfl:x=p:=by simpa using hx
      exact hs
theorem lit_ne (ps:List Pt) (t:List UInt8) (q:Bool):lit ps t q≠ []:=by
  rcases List.eq_nil_or_concat ps with rfl|⟨r,p,rfl⟩
  · simp[lit]
  · rw[List.concat_eq_append,lit_last]
    split<;>simp
theorem litT_append {wi:Bool} {a b:List UInt8} {q:Bool} {p:Pt} (hp:p.text=a∧p.q=q) (ha:litT wi p=true) (hb:litT wi ⟨1,b,[],[],q⟩=true):litT wi { p with text:=a++b } =true:=by
  obtain⟨rfl,rfl⟩:=hp;unfold litT at ha hb ⊢;simp only[Bool.and_eq_true,Bool.or_eq_true]at ha hb ⊢;refine⟨textT_append ha.1 hb.1,?_⟩
  rcases ha.2 with h|⟨h1,h2⟩
  · exact .inl h
  · rcases hb.2 with h|⟨h3,h4⟩
    · exact .inl h
    · refine .inr ⟨?_,?_⟩
      · cases hh:p.text with
        |nil=>rw[hh]at h1;simp at h1
        |cons x y=>rfl
      · rw[anyIn_append]
        simp only[Bool.not_eq_true',Bool.or_eq_false_iff]at h2 h4 ⊢;exact⟨h2,h4⟩
theorem Well.lit {k:Nat} {wi:Bool} {ps:List Pt} (h:Well k wi ps) {t:List UInt8} {q:Bool} (ht:litT wi ⟨1,t,[],[],q⟩=true):Well k wi (lit ps t q):=by
  have hn:partT (rowT k) wi ⟨1,t,[],[],q⟩=true:=by
    unfold partT;rw[if_pos rfl,ht];rfl
  rcases List.eq_nil_or_concat ps with rfl|⟨r,p,rfl⟩
  · refine⟨?_,fun x hx=> ?_⟩
    · show sideT _ none [_]=true
      rw[sideT,hn];rfl
    · obtain rfl:x=_:=by simpa [LexMath.lit]using hx
      exact Small.nil
  · rw[List.concat_eq_append]at h ⊢
    have hs:=h.side;rw[side_append,Bool.and_eq_true,Bool.and_eq_true]at hs;rw[lit_last]
    split
    · rename_i hk
      refine⟨?_,fun x hx=> ?_⟩
      · rw[side_append,hs.1]
        have hpt:=hs.2.1;unfold partT at hpt ⊢;rw[if_pos hk.1,Bool.and_eq_true,Bool.and_eq_true]at hpt;rw[if_pos hk.1,hpt.1,hpt.2.1,litT_append ⟨rfl,hk.2⟩ hpt.2.2 ht];have e:∀x:Pt,oneT x { p with text:=p.text++t } =oneT x p:=fun x=>rfl;simp only[e];rw[hs.2.2];rfl
      · rcases List.mem_append.1 hx with hx|hx
        · exact h.small x (List.mem_append_left _ hx)
        · obtain rfl:x=_:=by simpa using hx
          exact h.small p (by simp)
    · rename_i hk
      refine⟨?_,fun x hx=> ?_⟩
      · rw[side_append,h.side,hn]
        have:((r++ [p]).getLast?.or none)=some p:=(by simp);rw[this]
        have e:oneT p ⟨1,t,[],[],q⟩=false:=by
          unfold oneT
          by_cases h1:p.kind=1
          · have h2:p.q≠q:=fun e=>hk ⟨h1,e⟩
            have h3:(p.q==q)=false:=(by simpa using h2);rw[h3];simp
          · have h3:(p.kind==1)=false:=by simpa using h1
            rw[h3];rfl
        simp[e]
      · rcases List.mem_append.1 hx with hx|hx
        · exact h.small x hx
        · obtain rfl:x=_:=by simpa using hx
          exact Small.nil
theorem one_not {p:Pt} (h:(p.kind==1)=false):∀x,oneT x p=false:=fun x=>by unfold oneT;rw[h];simp
theorem quoted_lit {wi:Bool} {l:List Nat} (h:∀c∈l,GoodL c):litT wi ⟨1,enc l,[],[],true⟩=true:=by
  unfold litT;rw[show textT (Pt.text ⟨1,enc l,[],[],true⟩)=true from textT_enc h];rfl
theorem low_in (p:Nat→Bool) (h:(List.range 128).all p=true) {c:Nat} (hc:c<128):p c=true:=List.all_eq_true.1 h c (List.mem_range.2 hc)
theorem bare_lit {wi:Bool} {l:List Nat} (h:∀c∈l,GoodL c) (hn:l≠ []) (hs:∀c∈l,(begins c||ends c wi)=false):litT wi ⟨1,enc l,[],[],false⟩=true:=by
  unfold litT;rw[show textT (Pt.text ⟨1,enc l,[],[],false⟩)=true from textT_enc h]
  have he:(enc l).isEmpty=false:=by
    cases hh:(enc l).isEmpty with
    |false=>rfl
    |true=>exact absurd (enc_nil hh) hn
  have ha:anyIn (enc l) (if wi=true then metaW else metaB)=false:=by
    cases wi with
    |true=>
      refine any_enc (by decide) l fun c hc=>⟨(h c hc).2.1,fun h1=> ?_⟩;have h2:=low_in (fun c=>(begins c||ends c true)|| !metaW.contains (UInt8.ofNat c)) (by decide+kernel) h1;simp only[hs c hc,Bool.false_or]at h2
      simpa using h2
    |false=>
      refine any_enc (by decide) l fun c hc=>⟨(h c hc).2.1,fun h1=> ?_⟩;have h2:=low_in (fun c=>(begins c||ends c false)|| !metaB.contains (UInt8.ofNat c)) (by decide+kernel) h1;simp only[hs c hc,Bool.false_or]at h2
      simpa using h2
  show(true&&(false||(!(enc l).isEmpty&& !anyIn (enc l) _)))=true;rw[he,ha];rfl
theorem other_low {c:Nat} (h:other c=true):c<128∧GoodL c:=by
  unfold other at h;simp only[Bool.or_eq_true,decide_eq_true_eq,beq_iff_eq]at h;unfold GoodL;omega
theorem other_enc {c:Nat} (h:other c=true):otherT (enc [c])=true:=by
  obtain⟨h1,_⟩:=other_low h;have h2:=low_in (fun c=> !other c||otherT (enc [c])) (by decide+kernel) h1
  simpa [h]using h2
theorem parameter_well {xs l r:List Nat} (hg:∀c∈xs,GoodL c) (h:parameterM xs= .ok (l,r)):nameT (enc l)=nameL l∧(nameT (enc l)||otherT (enc l))=true∧(other (next xs)=false→nameL l=true):=by
  unfold parameterM at h
  split at h
  · rename_i ho
    cases h
    refine⟨nameT_enc fun c hc=> ?_,?_,fun hf=> ?_⟩
    · obtain rfl:c=next xs:=by simpa using hc
      exact(other_low ho).2
    · rw[other_enc ho,Bool.or_true]
    · rw[ho]at hf;cases hf
  · split at h
    · rename_i hn
      cases h
      have e:=nameT_enc (got_all (S:=fun r=> !moreR r) hg);exact⟨e,by rw[e,hn];rfl,fun _=>hn⟩
    · cases h
theorem op_well {nm:Bool} {xs r:List Nat} {o:List UInt8} (h:opM nm xs=some (o,r)):(o= [58,45]∨o= [58,43])∨(o= [58,61]∧nm=true):=by
  unfold opM at h
  split at h
  · cases h;exact .inl (.inl rfl)
  · split at h
    · cases h;exact .inl (.inr rfl)
    · split at h
      · rename_i hn
        split at h
        · cases h;exact .inr ⟨rfl,hn⟩
        · cases h
      · cases h
def BraceWell (k:Nat) (f:List Nat→Res Pt):Prop:=∀xs p r,(∀c∈xs,GoodL c)→xs.length≤4000→f xs= .ok (p,r)→p.kind=2∧varT (rowT k) p=true∧Small p.word
def PartsWell (k:Nat) (f:List Nat→Res (List Pt)):Prop:=∀xs ps r,(∀c∈xs,GoodL c)→xs.length≤4000→f xs= .ok (ps,r)→rowT k ps=true∧Small ps
theorem first_other {c:Nat} (h:firstR c=true):other c=false:=by
  unfold firstR at h;unfold other;rw[decide_eq_true_eq]at h;have h1:¬(49≤c∧c≤57):=(by omega);have h2:(c==64)=false:=(by simp;omega);have h3:(c==35)=false:=(by simp;omega);have h4:(c==63)=false:=(by simp;omega);rw[decide_eq_false h1,h2,h3,h4];rfl
theorem operation_well {k:Nat} {f:List Nat→Res (List Pt)} (hf:PartsWell k f) {l xs r:List Nat} {p:Pt} (hg:∀c∈xs,GoodL c) (hx:xs.length≤4000) (hl:nameT (enc l)=nameL l∧(nameT (enc l)||otherT (enc l))=true) (h:operationM f l xs= .ok (p,r)):p.kind=2∧varT (rowT k) p=true∧Small p.word:=by
  unfold operationM at h
  split at h
  · rename_i hc
    cases hp:parameterM xs with
    |error e=>rw[hp]at h;cases h
    |ok a=>
      obtain⟨l',r'⟩:=a;rw[hp]at h
      cases h
      obtain⟨h1,h2,h3⟩:=parameter_well hg hp;refine⟨rfl,?_,Small.nil⟩;unfold varT;have hn:=h3 (first_other hc.2);rw[hn]at h1;simp[h1]
  · cases hp:opM (nameL l) xs with
    |none=>rw[hp]at h;cases h
    |some a=>
      obtain⟨o,r'⟩:=a;rw[hp]at h;simp only at h;have ho:=op_suf hp
      cases hq:f r' with
      |error e=>rw[hq]at h;cases h
      |ok b=>
        obtain⟨w,r2⟩:=b;rw[hq]at h
        cases h
        obtain⟨h1,h2⟩:=hf r' w _ (ho.1.good hg) (by have:=ho.2;omega) hq;refine⟨rfl,?_,h2⟩;unfold varT;simp only[hl.2,h1]
        rcases op_well hp with (rfl|rfl)|⟨rfl,hn⟩
        · simp
        · simp
        · simp[hl.1,hn]
theorem braces_well {k:Nat} {f:List Nat→Res (List Pt)} (hf:PartsWell k f) (lim:Bool):BraceWell k (bracesM lim f):=by
  intro xs p r hg hx h;unfold bracesM at h
  split at h
  · cases h
  · cases hp:parameterM xs with
    |error e=>rw[hp]at h;cases h
    |ok a=>
      obtain⟨l,r'⟩:=a;rw[hp]at h;simp only at h;obtain⟨h1,h2,h3⟩:=parameter_well hg hp;obtain⟨s1,s2,s3⟩:=parameter_suf hp
      split at h
      · obtain⟨_,rfl⟩:=close_less h
        refine⟨rfl,?_,Small.nil⟩;unfold varT;simp[h2]
      · cases hq:operationM f l r' with
        |error e=>rw[hq]at h;cases h
        |ok b=>
          obtain⟨p',r2⟩:=b;rw[hq]at h;simp only at h;obtain⟨_,rfl⟩:=close_less h;exact operation_well hf (s1.good hg) (by omega) ⟨h1,h2⟩ hq
theorem more_128 {c:Nat} (h:moreR c=true):c<128:=by
  unfold moreR firstR at h;simp only[Bool.or_eq_true,decide_eq_true_eq]at h;omega
theorem treckons_low {c:Nat} (h:reckons c=true):c<128:=by
  unfold reckons at h;simp only[Bool.or_eq_true,beq_iff_eq]at h
  rcases h with h|h
  · exact more_128 h
  · omega
theorem arith_word:∀(xs:List Nat) (n:Nat) (acc l r:List Nat),arithM xs n acc= .ok (l,r)→∃m,l=acc++m∧arithT (enc m) n=true
  | [],_,_,_,_,h=>by cases h
  |c::r,n,acc,l,r',h=>by
    rw[arithM]at h
    split at h
    · rename_i hc
      split at h
      · cases h
        exact⟨[],by simp,by rw[hc.1];rfl⟩
      · cases h
    · rename_i hc
      split at h
      · rename_i hr
        obtain⟨m,rfl,hm⟩:=arith_word r _ _ _ _ h;refine⟨c::m,by simp,?_⟩;have h1:=treckons_low hr;rw[enc,teb_low h1,List.singleton_append,arithT]
        by_cases h40:c=40
        · subst h40
          rw[if_pos rfl]at hm;rw[if_pos (by decide)];exact hm
        · have e40:¬UInt8.ofNat c=40:=fun e=>h40 (by
            have:=congrArg UInt8.toNat e;rw[byte_of c (by omega)]at this
            exact this)
          rw[if_neg h40]at hm;rw[if_neg e40]
          by_cases h41:c=41
          · subst h41
            rw[if_pos rfl]at hm;rw[if_pos (by decide),hm];have hn:¬n=0:=fun e=>hc ⟨e,rfl⟩;simp[hn]
          · have e41:¬UInt8.ofNat c=41:=fun e=>h41 (by
              have:=congrArg UInt8.toNat e;rw[byte_of c (by omega)]at this
              exact this)
            rw[if_neg h41]at hm;rw[if_neg e41,hm,Bool.and_true];have h2:=low_in (fun c=> !reckons c||reckT (UInt8.ofNat c)) (by decide+kernel) h1
            simpa [hr]using h2
      · cases h
theorem escaped_well {k:Nat} {wi:Bool} {xs ys:List Nat} {ps qs:List Pt} (hg:∀c∈xs,GoodL c) (hw:Well k wi ps) (h:escapedM xs ps= .ok (qs,ys)):Well k wi qs∧qs≠ []:=by
  unfold escapedM at h
  cases ht:xs.tail with
  |nil=>rw[ht]at h;cases h
  |cons c r=>
    rw[ht]at h
    cases h
    have hc:GoodL c:=hg c (List.mem_of_mem_tail (by rw[ht];simp))
    exact⟨hw.lit (quoted_lit (fun x hx=>by
      obtain rfl:x=c:=by simpa using hx
      exact hc)),lit_ne _ _ _⟩
theorem single_well {k:Nat} {wi:Bool} {xs ys:List Nat} {ps qs:List Pt} (hg:∀c∈xs,GoodL c) (hw:Well k wi ps) (h:singleM xs ps= .ok (qs,ys)):Well k wi qs∧qs≠ []:=by
  unfold singleM at h
  split at h
  · cases h
  · cases h
    exact⟨hw.lit (quoted_lit (got_all fun c hc=>hg c (List.mem_of_mem_tail hc))),lit_ne _ _ _⟩
theorem good_lits {a:Nat} (h:0<a∧a<128):∀c∈ [a],GoodL c:=fun c hc=>by
  obtain rfl:c=a:=(by simpa using hc);unfold GoodL;omega
theorem enc_lone {a:Nat} (h:a<128):enc [a]= [UInt8.ofNat a]:=by rw[enc,teb_low h];rfl
theorem dollar_well {k:Nat} {wi:Bool} {br:List Nat→Res Pt} (hb:BraceWell k br) {q:Bool} {xs ys:List Nat} {ps qs:List Pt} (hg:∀c∈xs,GoodL c) (hx:xs.length≤4000) (hw:Well k wi ps) (h:dollarM br q xs ps= .ok (qs,ys)):Well k wi qs∧qs≠ []:=by
  have hgt:∀c∈xs.tail,GoodL c:=fun c hc=>hg c (List.mem_of_mem_tail hc);have hxt:xs.tail.length≤4000:=(by rw[List.length_tail];omega);unfold dollarM at h
  split at h
  · rename_i r hs
    have h1:=takes_less hs (by decide)
    cases hp:br r with
    |error e=>rw[hp]at h;cases h
    |ok a=>
      obtain⟨p,r'⟩:=a;rw[hp]at h
      cases h
      obtain⟨h2,h3,h4⟩:=hb r p _ (h1.1.good hgt) (by have:=h1.2;omega) hp;refine⟨hw.add (p:= { p with q:=q }) ?_ (one_not (by rw[show Pt.kind { p with q:=q } =2 from h2];rfl)) h4,by simp⟩;unfold partT;have e1:¬Pt.kind { p with q:=q } =1:=(by rw[show Pt.kind { p with q:=q } =2 from h2];decide);rw[if_neg e1,if_pos (show Pt.kind { p with q:=q } =2 from h2)];exact h3
  · split at h
    · rename_i r hs
      cases hp:arithM r 0 []with
      |error e=>rw[hp]at h;cases h
      |ok a=>
        obtain⟨l,r'⟩:=a;rw[hp]at h
        cases h
        obtain⟨m,rfl,hm⟩:=arith_word _ _ _ _ _ hp;refine⟨hw.add ?_ (one_not rfl) Small.nil,by simp⟩;unfold partT;rw[if_neg (show ¬(3:Int)=1 by decide),if_neg (show ¬(3:Int)=2 by decide),if_pos rfl]
        simpa using hm
    · split at h
      · cases hp:parameterM xs.tail with
        |error e=>rw[hp]at h;cases h
        |ok a=>
          obtain⟨l,r'⟩:=a;rw[hp]at h
          cases h
          obtain⟨h1,h2,h3⟩:=parameter_well hgt hp;refine⟨hw.add ?_ (one_not rfl) Small.nil,by simp⟩;unfold partT;rw[if_neg (show ¬(2:Int)=1 by decide),if_pos rfl];unfold varT;simp[h2]
      · cases h
        have:=quoted_lit (wi:=wi) (good_lits (a:=36) (by decide));rw[enc_lone (by decide)]at this;exact⟨hw.lit this,lit_ne _ _ _⟩
theorem within_well {k:Nat} {wi:Bool} {br:List Nat→Res Pt} (hb:BraceWell k br) {xs ys:List Nat} {ps qs:List Pt} (hg:∀c∈xs,GoodL c) (hx:xs.length≤4000) (hw:Well k wi ps) (h:withinM br xs ps= .ok (qs,ys)):Well k wi qs∧qs≠ []:=by
  unfold withinM at h
  split at h
  · cases h
  · split at h
    · unfold escapedWithinM at h
      cases ht:xs.tail with
      |nil=>rw[ht]at h;cases h
      |cons c r=>
        rw[ht]at h
        cases h
        have hc:GoodL c:=hg c (List.mem_of_mem_tail (by rw[ht];simp));have h92:=quoted_lit (wi:=wi) (good_lits (a:=92) (by decide));rw[enc_lone (by decide)]at h92
        have hw2:Well k wi (if acts c=true then ps else lit ps [92] true):=by
          split
          · exact hw
          · exact hw.lit h92
        exact⟨hw2.lit (quoted_lit (fun x hx=>by
          obtain rfl:x=c:=by simpa using hx
          exact hc)),lit_ne _ _ _⟩
    · split at h
      · exact dollar_well hb hg hx hw h
      · cases h
        exact⟨hw.lit (quoted_lit (got_all hg)),lit_ne _ _ _⟩
theorem doubleL_well {k:Nat} {wi:Bool} {br:List Nat→Res Pt} (hb:BraceWell k br) (ho:BraceOk br):∀(f:Nat) (xs ys:List Nat) (ps qs:List Pt),(∀c∈xs,GoodL c)→xs.length≤4000→Well k wi ps→doubleL br f xs ps= .ok (qs,ys)→Well k wi qs∧(ps≠ []→qs≠ [])
  |0,_,_,_,_,_,_,_,h=>by cases h
  |f+1,xs,ys,ps,qs,hg,hx,hw,h=>by
    rw[doubleL]at h
    split at h
    · cases h;exact⟨hw,id⟩
    · rename_i hs
      cases hq:withinM br xs ps with
      |error e=>rw[hq]at h;cases h
      |ok a=>
        obtain⟨ps',xs'⟩:=a;rw[hq]at h;simp only at h
        have hn:next xs≠34:=fun e=>by
          rw[takes_one,if_pos ⟨e,fun e'=>by rw[e']at e;cases e⟩]at hs
          cases hs
        have hl:=(within_less ho hq hn).1;obtain⟨h1,h2⟩:=within_well hb hg hx hw hq;obtain⟨h3,h4⟩:=doubleL_well hb ho f xs' ys ps' qs (hl.1.good hg) (by have:=hl.2;omega) h1 h;exact⟨h3,fun _=>h4 h2⟩
theorem within_some {br:List Nat→Res Pt} (f:Nat) {xs ys:List Nat} {ps qs:List Pt} (hn:next xs≠34) (h:doubleL br (f+1) xs ps= .ok (qs,ys)):∃ps' xs',withinM br xs ps= .ok (ps',xs')∧doubleL br f xs' ps'= .ok (qs,ys):=by
  rw[doubleL,takes_one,if_neg (fun e=>hn e.1)]at h;simp only at h
  cases hq:withinM br xs ps with
  |error e=>rw[hq]at h;cases h
  |ok a=>
    obtain⟨ps',xs'⟩:=a;rw[hq]at h;exact⟨ps',xs',rfl,h⟩
theorem double_well {k:Nat} {wi:Bool} {br:List Nat→Res Pt} (hb:BraceWell k br) (ho:BraceOk br) {xs ys:List Nat} {ps qs:List Pt} (hg:∀c∈xs,GoodL c) (hx:xs.length≤4000) (hw:Well k wi ps) (h:doubleM br xs ps= .ok (qs,ys)):Well k wi qs∧qs≠ []:=by
  have hgt:∀c∈xs.tail,GoodL c:=fun c hc=>hg c (List.mem_of_mem_tail hc);have hxt:xs.tail.length≤4000:=(by rw[List.length_tail];omega);unfold doubleM at h
  by_cases hn:next xs.tail=34
  · rw[if_pos hn]at h
    have h0:=quoted_lit (wi:=wi) (l:= []) (fun c hc=>by cases hc);obtain⟨h1,h2⟩:=doubleL_well hb ho _ _ _ _ _ hgt hxt (hw.lit h0) h;exact⟨h1,h2 (lit_ne _ _ _)⟩
  · rw[if_neg hn]at h
    obtain⟨ps',xs',h1,h2⟩:=within_some _ hn h;have hl:=(within_less ho h1 hn).1;obtain⟨h3,h4⟩:=within_well hb hgt hxt hw h1;obtain⟨h5,h6⟩:=doubleL_well hb ho _ _ _ _ _ (hl.1.good hgt) (by have:=hl.2;omega) h3 h2;exact⟨h5,h6 h4⟩
theorem part_well {k:Nat} {wi:Bool} {br:List Nat→Res Pt} (hb:BraceWell k br) (ho:BraceOk br) {xs ys:List Nat} {ps qs:List Pt} (hg:∀c∈xs,GoodL c) (hx:xs.length≤4000) (hn:next xs≠0) (he:ends (next xs) wi=false) (hw:Well k wi ps) (h:partM br wi xs ps= .ok (qs,ys)):Well k wi qs∧qs≠ []:=by
  unfold partM at h
  split at h
  · exact escaped_well hg hw h
  · split at h
    · exact single_well hg hw h
    · split at h
      · exact double_well hb ho hg hx hw h
      · split at h
        · exact dollar_well hb hg hx hw h
        · rename_i h1 h2 h3 h4
          cases h
          refine⟨hw.lit (bare_lit (got_all hg) ?_ (got_mem _ _)),lit_ne _ _ _⟩
          cases xs with
          |nil=>exact absurd rfl hn
          |cons c r=>
            simp only[next]at he h1 h2 h3 h4;have ha:(begins c||ends c wi)=false:=(by simp[begins,acts,h1,h2,h3,h4,he]);unfold got;rw[ha];simp
theorem partsL_well {k:Nat} {wi:Bool} {br:List Nat→Res Pt} (hb:BraceWell k br) (ho:BraceOk br):∀(f:Nat) (xs ys:List Nat) (ps qs:List Pt),(∀c∈xs,GoodL c)→xs.length≤4000→Well k wi ps→Fits xs ps→partsL br wi f xs ps= .ok (qs,ys)→Well k wi qs∧Fits ys qs∧(ps≠ []→qs≠ [])
  |0,_,_,_,_,_,_,_,_,h=>by cases h
  |f+1,xs,ys,ps,qs,hg,hx,hw,hf,h=>by
    rw[partsL]at h
    split at h
    · cases h;exact⟨hw,hf,id⟩
    · rename_i hc
      have hn:next xs≠0:=fun e=>hc (.inl e)
      have he:ends (next xs) wi=false:=by
        cases hh:ends (next xs) wi with
        |true=>exact absurd (.inr hh) hc
        |false=>rfl
      cases hq:partM br wi xs ps with
      |error e=>rw[hq]at h;cases h
      |ok a=>
        obtain⟨ps',xs'⟩:=a;rw[hq]at h;simp only at h;obtain⟨hl,hl2⟩:=part_less ho hq hn he;obtain⟨h1,h2⟩:=part_well hb ho hg hx hn he hw hq;obtain⟨h3,h4,h5⟩:=partsL_well hb ho f xs' ys ps' qs (hl.1.good hg) (by have:=hl.2;omega) h1 (hl2 hf) h;exact⟨h3,h4,fun _=>h5 h2⟩
theorem Well.row {k:Nat} {wi:Bool} {xs:List Nat} {ps:List Pt} (h:Well k wi ps) (hf:Fits xs ps) (hwi:wi=decide (k<20)):rowT (k+1) ps=true∧Small ps:=by
  refine⟨?_,.mk ps (fun q hq=> ?_) h.small⟩
  · rw[rowT,←hwi];exact h.side
  · have:=hf.2 q hq;omega
theorem parts_well:∀d,PartsWell (d+1) (partsM d)
  |0=>fun xs ps r hg hx h=>by
    have hb:BraceWell 0 (bracesM true fun _=> .error 0):=fun xs p r _ _ h=>(by unfold bracesM at h;simp at h);obtain⟨h1,h2,_⟩:=partsL_well hb (braces_ok (f:=fun _=> .error 0) (fun _ _ _ h=>by cases h) true) _ _ _ _ _ hg hx (Well.nil 0 true) (Fits.nil xs hx) h;exact h1.row h2 (by decide)
  |d+1=>fun xs ps r hg hx h=>by
    obtain⟨h1,h2,_⟩:=partsL_well (braces_well (parts_well d) false) (braces_ok (parts_ok d) false) _ _ _ _ _ hg hx (Well.nil (d+1) (decide (d<19))) (Fits.nil xs hx) h;exact h1.row h2 (decide_eq_decide.2 (by omega))
theorem begin_ends {xs:List Nat} (hx:xs≠ []) (hs:signM signs xs=none) (ha:next xs≠38) (h32:next xs≠32) (h9:next xs≠9):ends (next xs) false=false:=by
  have h1:∀c,[c]∈signs→next xs≠c:=fun c hc=>(sign_none signs xs c hs hc).resolve_right hx;have a1:=h1 59 (by decide);have a2:=h1 124 (by decide);have a3:=h1 40 (by decide);have a4:=h1 41 (by decide);have a5:=h1 62 (by decide);have a6:=h1 60 (by decide);have a7:=h1 10 (by decide);unfold ends blankR;simp only[Bool.false_eq_true,↓reduceIte,Bool.or_eq_false_iff,beq_eq_false_iff_ne,decide_eq_false_iff_not];omega
theorem token_word {n:Nat} {xs r:List Nat} {t:Tk} (hg:∀c∈xs,GoodL c) (hl:xs.length≤4000) (hx:xs≠ []) (h32:next xs≠32) (h9:next xs≠9) (h:tokenM n xs= .ok (t,r)):t.kind=1→wordT t.word=true∧Small t.word:=by
  unfold tokenM at h
  split at h
  · cases h;intro e;cases e
  · rename_i hs
    split at h
    · cases h
    · rename_i ha
      cases hp:partsM 20 xs with
      |error e=>rw[hp]at h;cases h
      |ok a=>
        obtain⟨ps,r'⟩:=a;rw[hp]at h
        cases h
        intro _;obtain⟨h1,h2⟩:=parts_well 20 xs ps _ hg hl hp;refine⟨?_,h2⟩;unfold wordT;rw[show rowT 21 ps=true from h1,Bool.and_true];have he:=begin_ends hx hs ha h32 h9;have hn:next xs≠0:=fun e=>hx ((next_zero hg).1 e);have hq:partsL (bracesM false (partsM 19)) false (xs.length+1) xs []= .ok (ps,r):=hp;rw[partsL,if_neg (by rw[he];simpa using hn)]at hq
        cases hw:partM (bracesM false (partsM 19)) false xs []with
        |error e=>rw[hw]at hq;cases hq
        |ok a=>
          obtain⟨ps',xs'⟩:=a;rw[hw]at hq;simp only at hq;have hb:=braces_well (parts_well 19) false;have ho:=braces_ok (parts_ok 19) false;obtain⟨hl1,hl2⟩:=part_less ho hw hn he;obtain⟨k1,k2⟩:=part_well hb ho hg hl hn he (Well.nil 20 false) hw;obtain⟨_,_,k3⟩:=partsL_well hb ho _ _ _ _ _ (hl1.1.good hg) (by have:=hl1.2;omega) k1 (hl2 (Fits.nil xs hl)) hq;have:=k3 k2
          cases ps with
          |nil=>exact absurd rfl this
          |cons _ _=>rfl
theorem skip_head (xs:List Nat) (hx:skipM xs≠ []):next (skipM xs)≠32∧next (skipM xs)≠9:=by
  unfold skipM at hx ⊢
  split
  · rename_i h
    rw[if_pos h]at hx
    rcases left_head (fun r=>r==10) (left (fun r=>r !=32&&r !=9) xs)with h1|h1
    · exact absurd h1 hx
    · have:next (left (fun r=>r==10) (left (fun r=>r !=32&&r !=9) xs))=10:=by simpa using h1
      rw[this];decide
  · rename_i h
    rw[if_neg h]at hx
    rcases left_head (fun r=>r !=32&&r !=9) xs with h1|h1
    · exact absurd h1 hx
    · simpa using h1
theorem tskip_suf (xs:List Nat):Suf xs (skipM xs):=by
  unfold skipM
  split
  · exact(Suf.left _ _).trans (Suf.left _ _)
  · exact Suf.left _ _
end Go.Proofs.YtcpmjkefbjbhpaaGreatDoor
namespace Go.Proofs.YtcpmjkefbjbhpaaGreatDoor
open Go Go.RowKit GlyphMath LexMath
theorem and_mid:∀b:Nat,b<256→128≤b→b<192→bits .and .u8 (b:Int) 192=128:=by decide+kernel
theorem and_not:∀b:Nat,b<256→(b<128∨192≤b)→(bits .and .u8 (b:Int) 192==128)=false:=by decide+kernel
theorem pos_within {s:ByteArray} {i c:Nat} {r:List Nat} (h:Pos s i (c::r)) {n:Nat} (h1:1≤n) (h2:n<(eb c).length):i+n<s.size∧128≤byteAt s (i+n)∧byteAt s (i+n)<192:=by
  have hx:=h.byte n;rw[enc,List.getElem?_append_left h2,eb_split]at hx;rw[eb_split]at h2;obtain⟨n,rfl⟩:∃k,n=k+1:=⟨n-1,by omega⟩;rw[List.getElem?_cons_succ]at hx;simp only[List.length_cons]at h2;rw[List.getElem?_eq_getElem (l:=tb c) (i:=n) (by omega)]at hx;obtain⟨hj, -⟩:=byte_get hx;refine⟨hj,?_⟩;unfold byteAt;rw[hx];exact tb_mid c _ (List.getElem_mem _)
theorem pos_behind {s:ByteArray} {i:Nat} {xs:List Nat} (h:Pos s i xs):s.size≤i∨(i<s.size∧(byteAt s i<128∨192≤byteAt s i)):=by
  rw[h.fbn];have hl:=h.len
  cases xs with
  |nil=>simp[enc]at hl;omega
  |cons c r=>
    right;have h1:=eb_length c;simp only[enc,List.length_append]at hl;obtain⟨-, -,h3,h4⟩:=fb_facts (h.good c (by simp));refine⟨by omega,?_⟩;show fb c<128∨192≤fb c
    by_cases hc:c<128
    · left;rw[(h3 hc).1];exact hc
    · right;exact h4 (by omega)
theorem rletter_err {w:World} {X:Nat} {s:ByteArray} {i c:Int} (h:Lx w X s i c) (hc:(c !=0)=true):
    Calls Tryz.prog 90 #[.pointer (some ⟨X,0,none⟩)] w fun e w'=>e= .returned (.string ⟨#[]⟩)∧∃m,w'=w.drewN m:=by
  have c2:=h.c2;have HF:=yH (fun m=>rfail_yes (h.drewN m) (show(c==0)=false by cases hx:(c==0)<;>simp_all) 2);clear h;go_enter Tryz.func90,Tryz.ntmps90;go_wp2_with fail
  go_quiet (fail)
  go_wp2_with fail;refine(HF.out _).mono ?_;rintro e w1 ⟨rfl,rfl⟩;go_wp2_with fail;go_ret;exact⟨rfl,_,rfl⟩
theorem rletter_end {w:World} {X:Nat} {s:ByteArray} {i:Nat} (h:Lx w X s (i:Int) 0) (hi:s.size≤i):
    Calls Tryz.prog 90 #[.pointer (some ⟨X,0,none⟩)] w fun e w'=>e= .returned (.string ⟨#[]⟩)∧Lx w' X s (i:Int) 2∧Kept (fun k=>k=X) w w':=by
  have c0:=h.c0;have c1:=h.c1;have c2:=h.c2;have h1:¬(i:Int)<(s.size:Int):=(by omega);have HF:=yH (fun m=>rfail_no (h.drewN m) 2);clear h hi;go_enter Tryz.func90,Tryz.ntmps90;go_wp2_with fail
  go_quiet (fail)
  go_wp2_with fail;refine(HF.out _).mono ?_;rintro e w1 ⟨rfl,hl,hk⟩;have H1:=yH (And.intro hl hk);clear hl hk;go_wp2_with fail;go_ret;exact⟨rfl,H1.out.1,((Kept.refl _ w).drewN _).on H1.out.2⟩
set_option maxHeartbeats 1000000 in
theorem rletter_any {w:World} {X:Nat} {s:ByteArray} {i c:Nat} {r:List Nat} (h:Lx w X s (i:Int) 0) (hp:Pos s i (c::r)) (hs:s.size≤2000):
    Calls Tryz.prog 90 #[.pointer (some ⟨X,0,none⟩)] w fun e w'=>e= .returned (.string ⟨(eb c).toArray⟩)∧Lx w' X s ((i+(eb c).length:Nat):Int) 0∧Kept (fun k=>k=X) w w':=by
  have c0:=h.c0;have c1:=h.c1;have c2:=h.c2;have f1:=h.fz 1;have hL:=eb_length c;have hl:=hp.len;simp only[enc,List.length_append]at hl;have hex:=Pos.extract (p:= [c]) hp;rw[enc_one]at hex;have HW:=yH (fun n h1 h2=>pos_within hp (n:=n) h1 h2);have HB:=yH (pos_behind hp.step);obtain⟨L,hLL⟩:∃L,(eb c).length=L:=⟨_,rfl⟩;rw[hLL]at hL hl hex HW HB ⊢;have hi:(i:Int)<(s.size:Int):=(by omega);have hi2:(i:Int)+(L:Int)≤(s.size:Int):=(by omega);have hs2:(s.size:Int)≤2000:=(by omega);have hL1:(1:Int)≤(L:Int):=(by omega);have hL4:(L:Int)≤4:=(by omega);have hN1:1≤L:=hL.1;have HN:=yH hL;have HE:=yH hex;have HH:=yH h;clear h hp hs hL hl hex hLL;go_enter Tryz.func90,Tryz.ntmps90;go_wp2_with fail
  go_quiet (fail)
  go_wp2_with fail
  go_loopw [3] (fun n wr=> ∃k m,n= .int .i64 ((k:Nat):Int)∧1≤k∧k≤L∧wr=w.drewN m) (fun n _=>L-(intOf n).toNat)
  case atStart=>exact⟨1,_,rfl,Nat.le_refl _,hN1,rfl⟩
  case round=>
    obtain⟨k,m,rfl,hk1,hk2,rfl⟩:=hrel;have e1:IntKind.i64.wrap ((i:Int)+(k:Int))=(i:Int)+(k:Int):=IntWalk.i64_in _ ⟨by omega,by omega⟩;obtain⟨b,hb⟩:∃b,byteAt s (i+k)=b:=⟨_,rfl⟩;have hb256:b<256:=(by rw[←hb];exact byteAt_lt _ _)
    by_cases hlt:k<L
    · obtain⟨g1,g2,g3⟩:=HW.out k hk1 hlt
      rw[hb]at g2 g3;have h1:((i:Int)+(k:Int))<(s.size:Int):=(by omega);have h2:0≤(i:Int)+(k:Int):=(by omega)
      have hix:∀W,(Instr.index 9 (.string s) (.int .i64 ((i:Int)+(k:Int)))).run Tryz.prog W= .ok (.int .u8 (b:Int)) W:=fun W=>by
        rw[run_index_string W 9 s .i64 _ Tryz.underlying9,dif_pos ⟨h2,h1⟩,←hb,byteAt_in g1];simp only[show ((i:Int)+(k:Int)).toNat=i+k by omega]
      have hand:=and_mid b hb256 g2 g3;have hk3:(k:Int)+1≤9223372036854775807:=(by omega);have HK:=yH hlt;clear hb hb256 g1 g2 g3 hlt hk1 hk2;go_wp2_with fail
      go_quiet (fail)
      go_wp2_with fail;exact⟨⟨k+1,_,rfl,by omega,HK.out,rfl⟩,by have:=HK.out;simp[intOf];omega⟩
    · obtain rfl:L=k:=by omega
      have HX:=yH (show(s.extract (i:Int).toNat ((i:Int)+(L:Int)).toNat)=⟨(eb c).toArray⟩from by rw[show (i:Int).toNat=i by omega,show((i:Int)+(L:Int)).toNat=i+L by omega];exact HE.out)
      have hsl:∀W,(Instr.slice 9 (.string s) (some (.int .i64 (i:Int))) (some (.int .i64 ((i:Int)+(L:Int)))) none).run Tryz.prog W= .ok (.string ⟨(eb c).toArray⟩) W:=fun W=>by
        rw[run_slice_string W 9 s .i64 .i64 _ _ Tryz.underlying9 (by omega) (by omega) (by omega),HX.out]
      have e2:IntKind.i64.wrap (i:Int)=(i:Int):=IntWalk.i64_in _ ⟨by omega,by omega⟩
      rcases HB.out with g|⟨g,g2⟩
      · have h1:decide (((i:Int)+(L:Int))<(s.size:Int))=false:=decide_eq_false (by omega)
        clear hb hb256 hlt hk1 hk2 hi hi2 g hs2;go_wp2_with fail
        go_quiet (fail)
        go_wp2_with fail
        go_quiet (fail)
        go_wp2_with fail;go_ret;exact⟨rfl,by rw[Int.natCast_add];exact((HH.out.drewN _).put1 _).drewN _,(Kept.setCell (D:=fun k=>k=X) ((Kept.refl _ w).drewN _) (.inl rfl) _).drewN _⟩
      · have h1:((i:Int)+(L:Int))<(s.size:Int):=by omega
        have h2:0≤(i:Int)+(L:Int):=by omega
        have hix:∀W,(Instr.index 9 (.string s) (.int .i64 ((i:Int)+(L:Int)))).run Tryz.prog W= .ok (.int .u8 (b:Int)) W:=fun W=>by
          rw[run_index_string W 9 s .i64 _ Tryz.underlying9,dif_pos ⟨h2,h1⟩,←hb,byteAt_in g];simp only[show ((i:Int)+(L:Int)).toNat=i+L by omega]
        rw[hb]at g2;have hand:=and_not b hb256 g2;clear hb hb256 g g2 hlt hk1 hk2 hi hi2 hs2;go_wp2_with fail
        go_quiet (fail)
        go_wp2_with fail
        go_quiet (fail)
        go_wp2_with fail;go_ret;exact⟨rfl,by rw[Int.natCast_add];exact((HH.out.drewN _).put1 _).drewN _,(Kept.setCell (D:=fun k=>k=X) ((Kept.refl _ w).drewN _) (.inl rfl) _).drewN _⟩
end Go.Proofs.YtcpmjkefbjbhpaaGreatDoor
