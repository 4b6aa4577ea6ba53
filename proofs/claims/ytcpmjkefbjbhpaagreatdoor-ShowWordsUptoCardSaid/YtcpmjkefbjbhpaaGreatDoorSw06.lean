/-
  Proved: contracts of functions, plain facts. Conditions: as each says.
-/
import Derived.Test.YtcpmjkefbjbhpaaGreatDoorSw05
import Derived.Test.YtcpmjkefbjbhpaaGreatDoorSw01
namespace Go.Proofs.YtcpmjkefbjbhpaaGreatDoor
open Go Go.RowKit GlyphMath LexMath TreeMath
theorem below_one (w:World) (o:Obj):Below w.heap.size w (w.alloc o):=(Below.refl _ _).alloc (Nat.le_refl _) _
theorem below_two (w:World) (o p:Obj):Below w.heap.size w ((w.alloc o).alloc p):=(below_one w o).alloc (by rw[World.size_alloc];omega) _
def PC (w:World) (b:Nat) (kd:Int) (s o:ByteArray) (u:Value) (q:Bool):Prop:=
  w.cell? ⟨b,0,none⟩=some (.int .i64 kd)∧w.cell? ⟨b,1,none⟩=some (.string s)∧w.cell? ⟨b,2,none⟩=some (.string o)∧w.cell? ⟨b,3,none⟩=some u∧w.cell? ⟨b,4,none⟩=some (.bool q)
theorem PC.new (w:World) (kd:Int) (s o:ByteArray) (u:Value) (q:Bool) (t:TypeId):PC (w.alloc (.cells #[.int .i64 kd,.string s,.string o,u,.bool q] t)) w.heap.size kd s o u q:=by
  have h:=heap_alloc_new w (.cells #[.int .i64 kd,.string s,.string o,u,.bool q] t);exact⟨cell_plain h 0,cell_plain h 1,cell_plain h 2,cell_plain h 3,cell_plain h 4⟩
theorem PC.below {w w':World} {b:Nat} {kd:Int} {s o:ByteArray} {u:Value} {q:Bool} (h:PC w b kd s o u q) (hb:Below w.heap.size w w'):PC w' b kd s o u q:=by
  have lt:∀ {a:Addr} {v:Value},w.cell? a=some v→a.block<w.heap.size:=fun h=>World.block_lt_of_cell? w _ h;obtain⟨h0,h1,h2,h3,h4⟩:=h;exact⟨(hb.cell (lt h0)).trans h0,(hb.cell (lt h1)).trans h1,(hb.cell (lt h2)).trans h2,(hb.cell (lt h3)).trans h3,(hb.cell (lt h4)).trans h4⟩
theorem int_ne {a b:Int} (h:a≠b):(a==b)=false:=beq_eq_false_iff_ne.2 h
set_option maxRecDepth 100000 in
theorem isBare_any (p:Pt) (u:Value) (w:World):
    Calls Tryz.prog 206 #[partV p u] w fun e w'=>e= .returned (.bool (bareT p))∧Below w.heap.size w w':=by
  obtain⟨kd,tx,op,wd,q⟩:=p;have HB:=yH (fun o=>below_one w o)
  by_cases h:kd=1
  · subst h
    have HT:=yH (show bareT ⟨1,tx,op,wd,q⟩= !q from rfl);rw[HT.out];unfold partV txt;go_enter Tryz.func206,Tryz.ntmps206;go_wp2_with fail;go_ret;exact⟨rfl,HB.out _⟩
  · have h1:=int_ne h
    have HT:=yH (show bareT ⟨kd,tx,op,wd,q⟩=false by unfold bareT;simp only[h1,Bool.false_and]);rw[HT.out];clear h;unfold partV txt;go_enter Tryz.func206,Tryz.ntmps206;go_wp2_with fail;go_ret;exact⟨rfl,HB.out _⟩
set_option maxRecDepth 100000 in
theorem isOne_any (p r:Pt) (u v:Value) (w:World):
    Calls Tryz.prog 123 #[partV p u,partV r v] w fun e w'=>e= .returned (.bool (oneT p r))∧Below w.heap.size w w':=by
  obtain⟨kd,tx,op,wd,q⟩:=p;obtain⟨kd2,tx2,op2,wd2,q2⟩:=r;have HB:=yH (fun o p=>below_two w o p)
  by_cases h:kd=1
  · subst h
    by_cases h2:kd2=1
    · subst h2
      have HT:=yH (show oneT ⟨1,tx,op,wd,q⟩ ⟨1,tx2,op2,wd2,q2⟩=(q==q2)from rfl);rw[HT.out];unfold partV txt;go_enter Tryz.func123,Tryz.ntmps123;go_wp2_with fail;go_ret;exact⟨rfl,HB.out _ _⟩
    · have h1:=int_ne h2
      have HT:=yH (show oneT ⟨1,tx,op,wd,q⟩ ⟨kd2,tx2,op2,wd2,q2⟩=false by unfold oneT;simp only[h1,Bool.false_and,Bool.and_false]);rw[HT.out];clear h2;unfold partV txt;go_enter Tryz.func123,Tryz.ntmps123;go_wp2_with fail;go_ret;exact⟨rfl,HB.out _ _⟩
  · have h1:=int_ne h
    have HT:=yH (show oneT ⟨kd,tx,op,wd,q⟩ ⟨kd2,tx2,op2,wd2,q2⟩=false by unfold oneT;simp only[h1,Bool.false_and]);rw[HT.out];clear h;unfold partV txt;go_enter Tryz.func123,Tryz.ntmps123;go_wp2_with fail;go_ret;exact⟨rfl,HB.out _ _⟩
theorem isOther_any (l:List UInt8) (w:World):
    Calls Tryz.prog 189 #[txt l] w fun e w'=>e= .returned (.bool (otherT l))∧w=w':=by
  by_cases h:∃c,l= [c]
  · obtain⟨c,rfl⟩:=h
    have HI:=yH (fun W=>Tryz.strings_Contains_one ⟨#[49,50,51,52,53,54,55,56,57,64,35,63]⟩ c W);have HT:=yH (show decide (0≤Lib.indexByte (⟨#[49,50,51,52,53,54,55,56,57,64,35,63]⟩:ByteArray).data.toList c)=otherT [c]from indexByte_in _ _);rw[HT.out]at HI;show Calls _ _ #[.string ⟨#[c]⟩] _ _;have hsz:(((⟨#[c]⟩:ByteArray).size:Int)==1)=true:=rfl;obtain⟨s,hs⟩:∃s:ByteArray,(⟨#[c]⟩:ByteArray)=s:=⟨_,rfl⟩;rw[hs]at HI hsz ⊢;clear hs;go_enter Tryz.func189,Tryz.ntmps189
    go_wp2_with (go_at_call 217;refine(HI.out _).mono ?_;rintro e w' ⟨rfl,rfl⟩)
    go_ret;exact⟨rfl,rfl⟩
  · have hl:¬l.length=1:=fun e=>h (by
      match l,e with
      | [c],_=>exact⟨c,rfl⟩)
    have HT:=yH (show otherT l=false by
      match l,h with
      | [],_=>rfl
      | [c],h=>exact absurd ⟨c,rfl⟩ h
      |_::_::_,_=>rfl)
    rw[HT.out];have hsz:(((T l).size:Int)==1)=false:=int_ne (by rw[T_size];omega);show Calls _ _ #[.string (T l)] _ _
    generalize T l=s at hsz ⊢
    clear h hl HT;go_enter Tryz.func189,Tryz.ntmps189;go_wp2_with fail;go_ret;exact⟨rfl,rfl⟩
set_option maxRecDepth 100000 in
theorem letters_any (p:Pt) (u:Value) (d:Nat) (w:World) (hs:p.text.length≤1048576):
    Calls Tryz.prog 159 #[partV p u,.int .i64 (d:Int)] w fun e w'=>e= .returned (.bool (litT (decide (0<d)) p))∧Below w.heap.size w w':=by
  obtain⟨kd,tx,op,wd,q⟩:=p;have HV:=yH (fun W=>valid_any (T tx) W);have HW:=yH (fun W=>contains_any (T tx) ⟨#[39,34,36,92,125]⟩ (by decide) (by decide) (by decide) hs W);have HM:=yH (fun W=>contains_any (T tx) ⟨#[32,9,10,59,38,124,40,41,60,62,39,34,36,92]⟩ (by decide) (by decide) (by decide) hs W);have HB:=yH (fun o=>below_one w o);obtain⟨R,hR⟩:∃R,litT (decide (0<d)) ⟨kd,tx,op,wd,q⟩=R:=⟨_,rfl⟩;have HL:=yH (show R=(isText (T tx)&&(q||(!tx.isEmpty&& !anyIn tx (if decide (0<d)then metaW else metaB))))from by rw[←hR];rfl);rw[hR];clear hR;have hemp:(T tx).toList.isEmpty=tx.isEmpty:=(by rw[Lib.toList_data]);show Calls _ _ #[.agg #[.int .i64 kd,.string (T tx),txt op,u,.bool q],_] _ _;have HA:=yH (show anyIn (T tx).data.toList (⟨#[39,34,36,92,125]⟩:ByteArray).data.toList=anyIn tx metaW∧anyIn (T tx).data.toList (⟨#[32,9,10,59,38,124,40,41,60,62,39,34,36,92]⟩:ByteArray).data.toList=anyIn tx metaB from⟨rfl,rfl⟩);rw[HA.out.1]at HW;rw[HA.out.2]at HM;obtain⟨A,hA⟩:∃A,isText (T tx)=A:=⟨_,rfl⟩;obtain⟨E,hE⟩:∃E,tx.isEmpty=E:=⟨_,rfl⟩;rw[hA]at HV HL;rw[hE]at hemp HL
  generalize place (T tx)=Q at HV
  clear HA hs hA hE
  generalize T tx=s at HV HW HM hemp ⊢
  unfold txt
  cases A with
  |false=>
    have HR:=yH (show R=false by rw[HL.out];rfl);rw[HR.out];clear HR HL;go_enter Tryz.func159,Tryz.ntmps159
    go_wp2_with (go_at_call 56;refine(HV.out _).mono ?_;rintro e w1 ⟨rfl,hb⟩;have HB1:=yH ((HB.out _).trans (hb.mono (HB.out _).size));clear hb)
    go_ret;exact⟨rfl,HB1.out⟩
  |true=>
    cases q with
    |true=>
      have HR:=yH (show R=true by rw[HL.out];rfl);rw[HR.out];clear HR HL;go_enter Tryz.func159,Tryz.ntmps159
      go_wp2_with (go_at_call 56;refine(HV.out _).mono ?_;rintro e w1 ⟨rfl,hb⟩;obtain⟨c0,c1,c2,c3,c4⟩:=(PC.new w kd s _ u _ 55).below hb;have HB1:=yH ((HB.out _).trans (hb.mono (HB.out _).size));clear hb)
      go_ret;exact⟨rfl,HB1.out⟩
    |false=>
      by_cases hd:0<d
      · have hdi:(0:Int)<(d:Int):=by omega
        cases E with
        |true=>
          have HR:=yH (show R=false by rw[HL.out];rfl);rw[HR.out];clear HR HL hd;go_enter Tryz.func159,Tryz.ntmps159
          go_wp2_with (go_at_call 56;refine(HV.out _).mono ?_;rintro e w1 ⟨rfl,hb⟩;obtain⟨c0,c1,c2,c3,c4⟩:=(PC.new w kd s _ u _ 55).below hb;have HB1:=yH ((HB.out _).trans (hb.mono (HB.out _).size));clear hb)
          go_ret;exact⟨rfl,HB1.out⟩
        |false=>
          have HR:=yH (show R= !anyIn tx metaW by rw[HL.out,decide_eq_true hd];rfl);rw[HR.out]
          generalize anyIn tx metaW=B at HW ⊢
          clear HR HL hd;go_enter Tryz.func159,Tryz.ntmps159
          go_wp2_with (first
            |(go_at_call 56;refine(HV.out _).mono ?_;rintro e w1 ⟨rfl,hb⟩;obtain⟨c0,c1,c2,c3,c4⟩:=(PC.new w kd s _ u _ 55).below hb;have HB1:=yH ((HB.out _).trans (hb.mono (HB.out _).size));clear hb)
            |(go_at_call 188;refine(HW.out _).mono ?_;rintro e w2 ⟨rfl,hb⟩;have HB2:=yH (HB1.out.trans (hb.mono HB1.out.size));clear hb))
          go_ret;exact⟨rfl,HB2.out⟩
      · have hdi:¬(0:Int)<(d:Int):=by omega
        cases E with
        |true=>
          have HR:=yH (show R=false by rw[HL.out];rfl);rw[HR.out];clear HR HL hd;go_enter Tryz.func159,Tryz.ntmps159
          go_wp2_with (go_at_call 56;refine(HV.out _).mono ?_;rintro e w1 ⟨rfl,hb⟩;obtain⟨c0,c1,c2,c3,c4⟩:=(PC.new w kd s _ u _ 55).below hb;have HB1:=yH ((HB.out _).trans (hb.mono (HB.out _).size));clear hb)
          go_ret;exact⟨rfl,HB1.out⟩
        |false=>
          have HR:=yH (show R= !anyIn tx metaB by rw[HL.out,decide_eq_false hd];rfl);rw[HR.out]
          generalize anyIn tx metaB=B at HM ⊢
          clear HR HL hd;go_enter Tryz.func159,Tryz.ntmps159
          go_wp2_with (first
            |(go_at_call 56;refine(HV.out _).mono ?_;rintro e w1 ⟨rfl,hb⟩;obtain⟨c0,c1,c2,c3,c4⟩:=(PC.new w kd s _ u _ 55).below hb;have HB1:=yH ((HB.out _).trans (hb.mono (HB.out _).size));clear hb)
            |(go_at_call 188;refine(HM.out _).mono ?_;rintro e w2 ⟨rfl,hb⟩;have HB2:=yH (HB1.out.trans (hb.mono HB1.out.size));clear hb))
          go_ret;exact⟨rfl,HB2.out⟩
theorem reck_low (c:UInt8) (h:c.toNat<128):reckT c=(moreR (c.toNat:Int)||inSet reckB c.toNat):=by
  unfold reckT inSet;rw[decide_eq_true h,Bool.true_and];simp
theorem reck_high (c:UInt8) (h:128≤c.toNat):reckT c=false:=by
  unfold reckT;rw[not_in h (by decide),Bool.or_false];unfold moreR firstR;simp;omega
theorem high_more (r:Nat) (h:128≤r):moreR (r:Int)=false:=by
  unfold moreR firstR;simp;omega
set_option maxHeartbeats 2000000 in
set_option maxRecDepth 100000 in
theorem reckoning_any (s:ByteArray) (w:World) (hs:s.size≤1048576):
    Calls Tryz.prog 161 #[.string s] w fun e w'=>e= .returned (.bool (arithT s.data.toList 0))∧Below w.heap.size w w':=by
  have HC:=fun (r:Nat) (hr:r<128∨GoodL r) (W:World)=>crune_in ⟨#[32,9,43,45,42,47,37,40,41,60,62,61,33]⟩ (by decide) (by decide) r hr W;have HC:=yH HC;obtain⟨R,hR⟩:∃R,arithT s.data.toList 0=R:=⟨_,rfl⟩;have HR:=yH hR;have HS:=yH hs;rw[hR];clear hR hs;go_enter Tryz.func161,Tryz.ntmps161
  go_wp2
  go_loopw [3,5] (fun o _ wr=> ∃(pos n:Nat),wr.heap[w.heap.size]? =some (.stringIter s pos)∧Below w.heap.size w wr∧o= .int .i64 (n:Int)∧arithT (s.data.toList.drop pos) n=R∧pos≤s.size∧n≤pos) (fun _ _ wr=>s.size-wr.iterPos w.heap.size)
  case atStart=>exact⟨0,0,(show(w.iter s 0).heap[w.heap.size]? =some (.stringIter s 0)from by unfold World.iter;exact heap_alloc_new w _),below_iter w s 0,rfl,HR.out,Nat.zero_le _,Nat.le_refl _⟩
  case round=>
    obtain⟨pos,n,hit,hb,rfl,hk,hle,hn⟩:=hrel
    by_cases hp:pos<s.size
    · obtain⟨r,d,hd⟩:∃r d,Utf8.decode s pos=(r,d):=⟨_,_,rfl⟩
      have hw1:=width_pos s pos hp;have hw2:=width_le s pos hp;rw[hd]at hw1 hw2;simp only at hw1 hw2;have hnx:∀ty,(Instr.next (.pointer (some ⟨w.heap.size,0,none⟩)) true ty).run Tryz.prog wr= .ok (.tuple #[.bool true,.int .i64 pos,.int .i32 (r:Int)]) (wr.iterAt w.heap.size s (pos+d)):=fun ty=>(by rw[Lib.run_next_any_at wr w.heap.size s pos ty hit hp,hd]);have hit2:=Lib.iterAt_heap wr w.heap.size s pos (pos+d) hit;have hb2:=Lib.below_iterAt hb (Nat.le_refl _) s (pos+d);obtain⟨W,hW⟩:∃W,wr.iterAt w.heap.size s (pos+d)=W:=⟨_,rfl⟩;rw[hW]at hnx hit2 hb2;have HX:=yH (And.intro hit2 (And.intro hb2 (And.intro hw1 (And.intro hw2 (And.intro hit (And.intro hle hn))))));rw[get_drop s pos hp,arithT]at hk;have hn1:(n:Int)+1≤9223372036854775807:=(by have:=HS.out;omega);have hn0:¬(n:Int)+1<0:=(by omega);have hn2:¬(n:Int)<0:=(by omega)
      by_cases hc:(s.get! pos).toNat<128
      · have hdl:=dec_low s pos hc
        rw[hd]at hdl
        obtain⟨hr,rfl⟩:r=(s.get! pos).toNat∧d=1:=by
          simp only[Prod.mk.injEq]at hdl;exact hdl
        by_cases h40:s.get! pos=40
        · rw[if_pos h40]at hk
          rw[h40]at hr;obtain rfl:r=40:=hr;have HK:=yH hk;have HI:=yH (show Calls Tryz.prog 162 #[.string ⟨#[32,9,43,45,42,47,37,40,41,60,62,61,33]⟩,.int .i32 40] W fun e w'=>e= .returned (.bool true)∧Below W.heap.size W w' from HC.out 40 (.inl (by decide)) W);clear hit hb hk hd hw1 hw2 hit2 hb2 hW hdl hc h40 hle hn
          go_wp2_with (first
            |(go_at_call 185;refine(more_any _ _).mono ?_;rintro e w1 ⟨rfl,rfl⟩;rw[show moreR 40=false from rfl])
            |(go_at_call 162;refine HI.out.mono ?_;rintro e w1 ⟨rfl,hb⟩;have HB:=yH hb;clear hb))
          go_roundw
          case rel=>exact⟨pos+1,n+1,(HB.out.block _ (gS.1 HX.out.1).1).trans HX.out.1,HX.out.2.1.trans (HB.out.mono HX.out.2.1.size),by go_num,HK.out,HX.out.2.2.2.1,by have:=HX.out.2.2.2.2.2.2;omega⟩
          case measure=>
            have e1:=(HB.out.block _ (gS.1 HX.out.1).1).trans HX.out.1;have e2:=HX.out.2.2.2.2.1;have:=HX.out.2.2.2.1;simp only[World.iterPos,e1,e2];omega
        · rw[if_neg h40]at hk
          have hr40:((r:Int)==40)=false:=int_ne (fun e=>h40 (by
            apply UInt8.toNat_inj.1;rw[←hr];have:r=40:=(by omega)
            rw[this];rfl))
          by_cases h41:s.get! pos=41
          · rw[if_pos h41]at hk
            rw[h41]at hr;obtain rfl:r=41:=hr;have HI:=yH (show Calls Tryz.prog 162 #[.string ⟨#[32,9,43,45,42,47,37,40,41,60,62,61,33]⟩,.int .i32 41] W fun e w'=>e= .returned (.bool true)∧Below W.heap.size W w' from HC.out 41 (.inl (by decide)) W)
            cases n with
            |zero=>
              have HK:=yH (show false=R from hk);clear hit hb hk hd hw1 hw2 hit2 hb2 hW hdl hc h40 h41 hle hn hr40;go_wp2_with fail;go_ret;exact⟨ret_bool HK.out,HX.out.2.1⟩
            |succ m=>
              have HK:=yH (show arithT (s.data.toList.drop (pos+1)) m=R from hk);have hm0:¬(m:Int)<0:=(by omega);have hms:((m+1:Nat):Int)-1=(m:Int):=(by omega);obtain⟨M,hM⟩:∃M:Int,((m+1:Nat):Int)=M:=⟨_,rfl⟩;have hMm:M-1=(m:Int):=(by rw[←hM];exact hms);rw[hM];have hM1:1≤M:=(by omega);have HM:=yH hMm;have hM2:¬M-1<0:=(by omega);have hM3:M-1≤9223372036854775807:=(by have:=HS.out;omega);clear hit hb hk hd hw1 hw2 hit2 hb2 hW hdl hc h40 h41 hle hn hr40 hms hM hMm hn1 hn0 hn2
              go_wp2_with (first
                |(go_at_call 185;refine(more_any _ _).mono ?_;rintro e w1 ⟨rfl,rfl⟩;rw[show moreR 41=false from rfl])
                |(go_at_call 162;refine HI.out.mono ?_;rintro e w1 ⟨rfl,hb⟩;have HB:=yH hb;clear hb))
              go_roundw
              case rel=>exact⟨pos+1,m,(HB.out.block _ (gS.1 HX.out.1).1).trans HX.out.1,HX.out.2.1.trans (HB.out.mono HX.out.2.1.size),by rw[HM.out],HK.out,HX.out.2.2.2.1,by have:=HX.out.2.2.2.2.2.2;omega⟩
              case measure=>
                have e1:=(HB.out.block _ (gS.1 HX.out.1).1).trans HX.out.1;have e2:=HX.out.2.2.2.2.1;have:=HX.out.2.2.2.1;simp only[World.iterPos,e1,e2];omega
          · rw[if_neg h41]at hk
            have hr41:((r:Int)==41)=false:=int_ne (fun e=>h41 (by
              apply UInt8.toNat_inj.1;rw[←hr];have:r=41:=(by omega)
              rw[this];rfl))
            obtain⟨M,hM⟩:∃M,moreR (r:Int)=M:=⟨_,rfl⟩;obtain⟨N,hN⟩:∃N,inSet reckB r=N:=⟨_,rfl⟩;have HM:=yH hM
            have HI:=yH (show Calls Tryz.prog 162 #[.string ⟨#[32,9,43,45,42,47,37,40,41,60,62,61,33]⟩,.int .i32 (r:Int)] W fun e w'=>e= .returned (.bool N)∧Below W.heap.size W w' from by
              rw[←hN]
              exact HC.out r (.inl (by rw[hr];exact hc)) W)
            rw[reck_low _ hc,←hr,hM,hN]at hk;have HK:=yH hk;clear hit hb hk hd hw1 hw2 hit2 hb2 hW hdl hc h40 h41 hle hn hr hM hN
            cases M with
            |true=>
              go_wp2_with (go_at_call 185;refine(more_any _ _).mono ?_;rintro e w1 ⟨rfl,rfl⟩;rw[HM.out])
              go_roundw
              case rel=>exact⟨pos+1,n,HX.out.1,HX.out.2.1,rfl,HK.out,HX.out.2.2.2.1,by have:=HX.out.2.2.2.2.2.2;omega⟩
              case measure=>
                have e1:=HX.out.1;have e2:=HX.out.2.2.2.2.1;have:=HX.out.2.2.2.1;simp only[World.iterPos,e1,e2];omega
            |false=>
              cases N with
              |true=>
                go_wp2_with (first
                  |(go_at_call 185;refine(more_any _ _).mono ?_;rintro e w1 ⟨rfl,rfl⟩;rw[HM.out])
                  |(go_at_call 162;refine HI.out.mono ?_;rintro e w1 ⟨rfl,hb⟩;have HB:=yH hb;clear hb))
                go_roundw
                case rel=>exact⟨pos+1,n,(HB.out.block _ (gS.1 HX.out.1).1).trans HX.out.1,HX.out.2.1.trans (HB.out.mono HX.out.2.1.size),rfl,HK.out,HX.out.2.2.2.1,by have:=HX.out.2.2.2.2.2.2;omega⟩
                case measure=>
                  have e1:=(HB.out.block _ (gS.1 HX.out.1).1).trans HX.out.1;have e2:=HX.out.2.2.2.2.1;have:=HX.out.2.2.2.1;simp only[World.iterPos,e1,e2];omega
              |false=>
                go_wp2_with (first
                  |(go_at_call 185;refine(more_any _ _).mono ?_;rintro e w1 ⟨rfl,rfl⟩;rw[HM.out])
                  |(go_at_call 162;refine HI.out.mono ?_;rintro e w1 ⟨rfl,hb⟩;have HB:=yH hb;clear hb))
                go_ret;exact⟨ret_bool HK.out,HX.out.2.1.trans (HB.out.mono HX.out.2.1.size)⟩
      · obtain⟨r',d',h1,h2,h3,h4,h5,h6⟩:=dec_high s pos hp (by omega)
        rw[hd]at h1
        obtain⟨rfl,rfl⟩:r=r'∧d=d':=by
          simp only[Prod.mk.injEq]at h1;exact h1
        have HM:=yH (high_more r h2)
        have HI:=yH (show Calls Tryz.prog 162 #[.string ⟨#[32,9,43,45,42,47,37,40,41,60,62,61,33]⟩,.int .i32 (r:Int)] W fun e w'=>e= .returned (.bool false)∧Below W.heap.size W w' from by
          have e:inSet reckB r=false:=(by unfold inSet;rw[decide_eq_false (by omega),Bool.false_and]);rw[←e]
          exact HC.out r (.inr h3) W)
        have hr40:((r:Int)==40)=false:=int_ne (by omega);have hr41:((r:Int)==41)=false:=int_ne (by omega)
        have HK:=yH (show false=R from by
          rw[←hk,if_neg (fun e=>by rw[e]at hc;exact hc (by decide)),if_neg (fun e=>by rw[e]at hc;exact hc (by decide)),reck_high _ (by omega),Bool.false_and])
        clear hit hb hk hd hw1 hw2 hit2 hb2 hW hc hle hn h1 h2 h3 h4 h5 h6
        go_wp2_with (first
          |(go_at_call 185;refine(more_any _ _).mono ?_;rintro e w1 ⟨rfl,rfl⟩;rw[HM.out])
          |(go_at_call 162;refine HI.out.mono ?_;rintro e w1 ⟨rfl,hb⟩;have HB:=yH hb;clear hb))
        go_ret;exact⟨ret_bool HK.out,HX.out.2.1.trans (HB.out.mono HX.out.2.1.size)⟩
    · have hnx:∀ty,(Instr.next (.pointer (some ⟨w.heap.size,0,none⟩)) true ty).run Tryz.prog wr=_:=fun ty=>Lib.run_next_end_at wr w.heap.size s pos ty hit hp
      rw[drop_all s pos hp,arithT]at hk;have HB:=yH hb;have HK:=yH hk;clear hk hit hb;go_wp2_with fail;go_ret;exact⟨ret_bool (by rw[←HK.out];cases n<;>rfl),HB.out⟩
end Go.Proofs.YtcpmjkefbjbhpaaGreatDoor
