/-
  Proved: contracts of functions, plain facts. Conditions: as each says.
-/
import Derived.Test.YtcpmjkefbjbhpaaGreatDoorSw20
import Derived.Test.YtcpmjkefbjbhpaaGreatDoorSw37
import Derived.Test.YtcpmjkefbjbhpaaGreatDoorSw05
namespace Go.Proofs.YtcpmjkefbjbhpaaGreatDoor
open Go Go.RowKit GlyphMath LexMath TreeMath
theorem node_cells (w:World) (o x:ByteArray) (kv wv pv av rv:Value) (t:TypeId):∀W,Below (w.alloc (.cells #[.string o,.string x,kv,wv,pv,av,rv] t)).heap.size (w.alloc (.cells #[.string o,.string x,kv,wv,pv,av,rv] t)) W→
    W.cell? ⟨w.heap.size,1,none⟩=some (.string x)∧W.cell? ⟨w.heap.size,3,none⟩=some wv∧W.cell? ⟨w.heap.size,4,none⟩=some pv∧W.cell? ⟨w.heap.size,5,none⟩=some av∧W.cell? ⟨w.heap.size,6,none⟩=some rv:=by
  intro W hb;have h:=heap_alloc_new w (.cells #[.string o,.string x,kv,wv,pv,av,rv] t);exact⟨cell_below (cell_plain h 1) hb,cell_below (cell_plain h 3) hb,cell_below (cell_plain h 4) hb,cell_below (cell_plain h 5) hb,cell_below (cell_plain h 6) hb⟩
theorem pos_len {α:Type} (l:List α):decide ((0:Int)<(l.length:Int))= !l.isEmpty:=by
  cases l with
  |nil=>rfl
  |cons a r=>exact decide_eq_true (by rw[List.length_cons];omega)
set_option maxHeartbeats 2000000 in
set_option maxRecDepth 100000 in
theorem command_any (n:Nd) (kp wp pp ap rp:Option Addr) (kc wc pc ac rc:Nat) (w:World) (hw:WsAt w (.slice wp n.words.length wc) n.words) (hs:∀y∈n.words,Small y):
    Calls Tryz.prog 146 #[NV n kp wp pp ap rp kc wc pc ac rc] w fun e w'=>e= .returned (.bool (commandT n))∧Below w.heap.size w w':=by
  obtain⟨op,name,kids,words,pats,assigns,redirs⟩:=n;have HBX:=yH (fun o=>below_one w o);obtain⟨R,hR⟩:∃R,commandT ⟨op,name,kids,words,pats,assigns,redirs⟩=R:=⟨_,rfl⟩;rw[hR];have hA:=pos_len assigns;have hD:=pos_len redirs;simp only at hw hs;obtain⟨o,ho⟩:∃o,T op=o:=⟨_,rfl⟩;obtain⟨x,hx⟩:∃o,T name=o:=⟨_,rfl⟩
  cases words with
  |nil=>
    have HR:=yH (show(!assigns.isEmpty|| !redirs.isEmpty)=R from hR);show Calls _ _ #[.agg #[.string (T op),.string (T name),.slice kp kids.length kc,.slice wp 0 wc,.slice pp pats.length pc,.slice ap assigns.length ac,.slice rp redirs.length rc]] _ _;rw[ho,hx]
    generalize assigns.isEmpty=EA at HR hA
    generalize redirs.isEmpty=ER at HR hD
    generalize assigns.length=AL at hA ⊢
    generalize redirs.length=RL at hD ⊢
    clear hR hw hs ho hx
    have ha:(0:Int)<(AL:Int)∧EA=false∨¬(0:Int)<(AL:Int)∧EA=true:=by
      cases EA with
      |false=>exact .inl ⟨of_decide_eq_true hA,rfl⟩
      |true=>exact .inr ⟨of_decide_eq_false hA,rfl⟩
    have hd:(0:Int)<(RL:Int)∧ER=false∨¬(0:Int)<(RL:Int)∧ER=true:=by
      cases ER with
      |false=>exact .inl ⟨of_decide_eq_true hD,rfl⟩
      |true=>exact .inr ⟨of_decide_eq_false hD,rfl⟩
    clear hA hD
    rcases ha with ⟨ha,rfl⟩|⟨ha,rfl⟩<;>rcases hd with ⟨hd,rfl⟩|⟨hd,rfl⟩
    all_goals
      go_enter Tryz.func146,Tryz.ntmps146;go_wp2_with fail;go_ret
      first
        |exact⟨ret_bool HR.out,HBX.out _⟩
        |exact⟨ret_bool (by rw[←HR.out];simp;omega),HBX.out _⟩
  |cons w0 r=>
    have HR:=yH (show(!givesT w0&&(!assigns.isEmpty||(match plainT w0 with|none=>true|some t=> !reservedT t)))=R from hR);obtain⟨b,oo,hp⟩:=SlAt.ptr hw (k:=0) (x:=w0) rfl;subst hp;obtain⟨cs,⟨u,rfl,hu⟩,hc⟩:=SlAt.cell hw rfl (k:=0) (x:=w0) rfl;have c0:w.cell? ⟨b,oo,none⟩=some u:=(by simpa using hc 0 _ rfl);obtain⟨up,uc,rfl, -, -⟩:=hu.is;have HSM:=yH (hs w0 (by simp));have HU:=yH hu;have HPL:=yH (fun W (hb:Below w.heap.size w W)=>plain_any w0 _ W (HU.out.stays hb));have HGV:=yH (fun W (hb:Below w.heap.size w W)=>gives_any w0 _ W (HU.out.stays hb) HSM.out);have HRS:=yH (fun W=>reserved_any ((plainT w0).getD []) W);obtain⟨WL,hWL⟩:∃L,r.length+1=L:=⟨_,rfl⟩;have hW0:((WL:Int)==0)=false:=int_ne (by omega);have hW1:(0:Int)<(WL:Int):=(by omega);show Calls _ _ #[.agg #[.string (T op),.string (T name),.slice kp kids.length kc,.slice (some ⟨b,oo,none⟩) (r.length+1) wc,.slice pp pats.length pc,.slice ap assigns.length ac,.slice rp redirs.length rc]] _ _;rw[ho,hx,hWL];unfold wordV at HPL HGV
    generalize w0.length=ul at c0 HPL HGV
    obtain⟨G,hG⟩:∃G,givesT w0=G:=⟨_,rfl⟩;rw[hG]at HR HGV;obtain⟨q,hq⟩:∃q,plainT w0=q:=⟨_,rfl⟩;rw[hq]at HR HPL HRS
    generalize assigns.isEmpty=EA at HR hA
    generalize assigns.length=AL at hA ⊢
    generalize redirs.length=RL at ⊢
    generalize kids.length=KL at ⊢
    generalize pats.length=PL at ⊢
    have ha:(0:Int)<(AL:Int)∧EA=false∨¬(0:Int)<(AL:Int)∧EA=true:=by
      cases EA with
      |false=>exact .inl ⟨of_decide_eq_true hA,rfl⟩
      |true=>exact .inr ⟨of_decide_eq_false hA,rfl⟩
    obtain⟨s,hs2⟩:∃s,T (q.getD [])=s:=⟨_,rfl⟩;rw[hs2]at HRS HPL;obtain⟨RS,hRS⟩:∃RS,reservedT (q.getD [])=RS:=⟨_,rfl⟩;rw[hRS]at HRS;obtain⟨Q,hQ⟩:∃Q,q.isSome=Q:=⟨_,rfl⟩;rw[hQ]at HPL
    have HR:=yH (show(!G&&(!EA||(!Q|| !RS)))=R from by
      rw[←HR.out,←hQ,←hRS]
      cases q<;>rfl)
    have HNC:=yH (node_cells w o x (.slice kp KL kc) (.slice (some ⟨b,oo,none⟩) WL wc) (.slice pp PL pc) (.slice ap AL ac) (.slice rp RL rc) 41);have HC0:=yH c0;have hc0:=fun y=>cell_below HC0.out (HBX.out y);clear hR hw hs hu hc hG hq hA hs2 hRS hQ hWL HU ho hx c0;have HB:=yH (Below.refl (w.alloc (.cells #[.string o,.string x,.slice kp KL kc,.slice (some ⟨b,oo,none⟩) WL wc,.slice pp PL pc,.slice ap AL ac,.slice rp RL rc] 41)).heap.size (w.alloc (.cells #[.string o,.string x,.slice kp KL kc,.slice (some ⟨b,oo,none⟩) WL wc,.slice pp PL pc,.slice ap AL ac,.slice rp RL rc] 41)));have HBW:=yH (show ∀W,Below (w.alloc (.cells #[.string o,.string x,.slice kp KL kc,.slice (some ⟨b,oo,none⟩) WL wc,.slice pp PL pc,.slice ap AL ac,.slice rp RL rc] 41)).heap.size (w.alloc (.cells #[.string o,.string x,.slice kp KL kc,.slice (some ⟨b,oo,none⟩) WL wc,.slice pp PL pc,.slice ap AL ac,.slice rp RL rc] 41)) W→Below w.heap.size w W from fun W hb=>(HBX.out _).trans (hb.mono (HBX.out _).size))
    cases G
    · rcases ha with ⟨ha,rfl⟩|⟨ha,rfl⟩
      · go_enter Tryz.func146,Tryz.ntmps146
        go_wp2_with (first
          |(go_at_call 175;refine(HPL.out _ (HBW.out _ HB.out)).mono ?_;rintro e w1 ⟨rfl,hb⟩;have hb:=HB.out.trans (hb.mono HB.out.size);obtain⟨c1,c3,c4,c5,c6⟩:=HNC.out _ hb;have cw:=cell_below HC0.out (HBW.out _ hb);have HB:=yH hb;clear hb)
          |(go_at_call 183;refine(HGV.out _ (HBW.out _ HB.out)).mono ?_;rintro e w2 ⟨rfl,hb⟩;have hb:=HB.out.trans (hb.mono HB.out.size);obtain⟨c1,c3,c4,c5,c6⟩:=HNC.out _ hb;have HB:=yH hb;clear hb)
          |(go_at_call 147;refine(HRS.out _).mono ?_;rintro e w3 ⟨rfl,rfl⟩))
        go_ret;exact⟨ret_bool HR.out,HBW.out _ HB.out⟩
      · cases Q
        · go_enter Tryz.func146,Tryz.ntmps146
          go_wp2_with (first
            |(go_at_call 175;refine(HPL.out _ (HBW.out _ HB.out)).mono ?_;rintro e w1 ⟨rfl,hb⟩;have hb:=HB.out.trans (hb.mono HB.out.size);obtain⟨c1,c3,c4,c5,c6⟩:=HNC.out _ hb;have cw:=cell_below HC0.out (HBW.out _ hb);have HB:=yH hb;clear hb)
            |(go_at_call 183;refine(HGV.out _ (HBW.out _ HB.out)).mono ?_;rintro e w2 ⟨rfl,hb⟩;have hb:=HB.out.trans (hb.mono HB.out.size);obtain⟨c1,c3,c4,c5,c6⟩:=HNC.out _ hb;have HB:=yH hb;clear hb)
            |(go_at_call 147;refine(HRS.out _).mono ?_;rintro e w3 ⟨rfl,rfl⟩))
          go_ret;exact⟨ret_bool HR.out,HBW.out _ HB.out⟩
        · cases RS
          · go_enter Tryz.func146,Tryz.ntmps146
            go_wp2_with (first
              |(go_at_call 175;refine(HPL.out _ (HBW.out _ HB.out)).mono ?_;rintro e w1 ⟨rfl,hb⟩;have hb:=HB.out.trans (hb.mono HB.out.size);obtain⟨c1,c3,c4,c5,c6⟩:=HNC.out _ hb;have cw:=cell_below HC0.out (HBW.out _ hb);have HB:=yH hb;clear hb)
              |(go_at_call 183;refine(HGV.out _ (HBW.out _ HB.out)).mono ?_;rintro e w2 ⟨rfl,hb⟩;have hb:=HB.out.trans (hb.mono HB.out.size);obtain⟨c1,c3,c4,c5,c6⟩:=HNC.out _ hb;have HB:=yH hb;clear hb)
              |(go_at_call 147;refine(HRS.out _).mono ?_;rintro e w3 ⟨rfl,rfl⟩))
            go_ret;exact⟨ret_bool HR.out,HBW.out _ HB.out⟩
          · go_enter Tryz.func146,Tryz.ntmps146
            go_wp2_with (first
              |(go_at_call 175;refine(HPL.out _ (HBW.out _ HB.out)).mono ?_;rintro e w1 ⟨rfl,hb⟩;have hb:=HB.out.trans (hb.mono HB.out.size);obtain⟨c1,c3,c4,c5,c6⟩:=HNC.out _ hb;have cw:=cell_below HC0.out (HBW.out _ hb);have HB:=yH hb;clear hb)
              |(go_at_call 183;refine(HGV.out _ (HBW.out _ HB.out)).mono ?_;rintro e w2 ⟨rfl,hb⟩;have hb:=HB.out.trans (hb.mono HB.out.size);obtain⟨c1,c3,c4,c5,c6⟩:=HNC.out _ hb;have HB:=yH hb;clear hb)
              |(go_at_call 147;refine(HRS.out _).mono ?_;rintro e w3 ⟨rfl,rfl⟩))
            go_ret;exact⟨ret_bool HR.out,HBW.out _ HB.out⟩
    · clear ha
      go_enter Tryz.func146,Tryz.ntmps146
      go_wp2_with (first
        |(go_at_call 175;refine(HPL.out _ (HBW.out _ HB.out)).mono ?_;rintro e w1 ⟨rfl,hb⟩;have hb:=HB.out.trans (hb.mono HB.out.size);obtain⟨c1,c3,c4,c5,c6⟩:=HNC.out _ hb;have cw:=cell_below HC0.out (HBW.out _ hb);have HB:=yH hb;clear hb)
        |(go_at_call 183;refine(HGV.out _ (HBW.out _ HB.out)).mono ?_;rintro e w2 ⟨rfl,hb⟩;have hb:=HB.out.trans (hb.mono HB.out.size);obtain⟨c1,c3,c4,c5,c6⟩:=HNC.out _ hb;have HB:=yH hb;clear hb)
        |(go_at_call 147;refine(HRS.out _).mono ?_;rintro e w3 ⟨rfl,rfl⟩))
      go_ret;exact⟨ret_bool HR.out,HBW.out _ HB.out⟩
end Go.Proofs.YtcpmjkefbjbhpaaGreatDoor
namespace Go.Proofs.YtcpmjkefbjbhpaaGreatDoor
open Go Go.RowKit GlyphMath LexMath TreeMath ParseMath
theorem below_drewA (w:World):Below w.heap.size w w.drew:=⟨rfl,rfl,rfl,Nat.le_refl _,fun _ _=>rfl⟩
theorem ofC_six (o:ByteArray) (v:Value):(ofC o v)[6]? =some (.slice none 0 0):=rfl
def WordP (W:World) (cs:List Value) (x:List Pt):Prop:=∃u,cs= [u]∧PsAt W u x
def PairP (W:World) (cs:List Value) (x:List UInt8×List Pt):Prop:=∃u,cs= [txt x.1,u]∧PsAt W u x.2
abbrev WRow (w0 w:World) (B:Nat) (v:Value) (css:List (List Value)) (l:List (List Pt)) (F:Nat→Prop):Prop:=RowG w0 w 45 1 WordP B v css l F
theorem slice_cel (p:Option Addr) (n c:Nat):Cel 1 [.slice p n c]:=⟨rfl,fun v hv=>by rw[List.mem_singleton.1 hv];rfl⟩
theorem word_new {w0 w:World} {C:Nat} {p:Option Addr} {n c:Nat} {ps:List Pt} (h:PsAt w0 (.slice p n c) ps):NewAt w0 w C fun W=>WordP W [.slice p n c] ps:=NewAt.of0 fun _ hb=>⟨_,rfl,h.stays hb⟩
def ndC (o m:ByteArray) (wv pv av rv:Value):List Value:= [.string o,.string m,.slice none 0 0,wv,pv,av,rv]
def nkC (o m:ByteArray) (wv pv av rv kv:Value):List Value:= [.string o,.string m,.slice none 0 0,wv,pv,av,rv,kv]
theorem nkC_cel (o m:ByteArray) (p1 p2 p3 p4 p5:Option Addr) (n1 n2 n3 n4 n5 c1 c2 c3 c4 c5:Nat):Cel 8 (nkC o m (.slice p1 n1 c1) (.slice p2 n2 c2) (.slice p3 n3 c3) (.slice p4 n4 c4) (.slice p5 n5 c5)):=⟨rfl,fun v hv=>by
  simp only[nkC,List.mem_cons,List.not_mem_nil,or_false]at hv
  rcases hv with rfl|rfl|rfl|rfl|rfl|rfl|rfl|rfl<;>rfl⟩
theorem ap_push {a a' b:Value} {Fb:Nat→Prop} {n:Nat} (hab:∀k,(Fb k∨b.ownBlock=some k)→a.ownBlock≠some k) (hb:∀k,(Fb k∨b.ownBlock=some k)→k<n) (hat:a'.ownBlock=a.ownBlock∨∀k,a'.ownBlock=some k→n≤k):∀k,(Fb k∨b.ownBlock=some k)→a'.ownBlock≠some k:=fun k hk e=>by
  rcases hat with h|h
  · exact hab k hk (h▸e)
  · have:=h k e;have:=hb k hk;omega
theorem ap_pushed {a a' b:Value} {Fa Fa':Nat→Prop} {C n:Nat} (hba:∀k,(Fa k∨a.ownBlock=some k)→b.ownBlock≠some k) (hF:∀k,Fa' k→Fa k∨(C≤k∧k<n)) (hb:∀k,b.ownBlock=some k→k<C∧k<n) (hat:a'.ownBlock=a.ownBlock∨∀k,a'.ownBlock=some k→n≤k):∀k,(Fa' k∨a'.ownBlock=some k)→b.ownBlock≠some k:=fun k hk e=>by
  rcases hk with hk|hk
  · rcases hF k hk with h|h
    · exact hba k (.inl h) e
    · have:=hb k e;omega
  · rcases hat with h|h
    · exact hba k (.inr (h▸hk)) e
    · have:=h k hk;have:=hb k e;omega
def PartP (W:World) (cs:List Value) (q:Pt):Prop:=∃u,cs=pcells q u∧PsAt W u q.word
def PaR (w0 w:World) (B:Nat) (v:Value) (ps:List Pt):Prop:=∃css,RowG w0 w 55 5 PartP B v css ps (fun _=>False)
theorem part_cel {W:World} {q:Pt} {u:Value} (h:PsAt W u q.word):Cel 5 (pcells q u):=by
  obtain⟨p,c,rfl, -⟩:=h.is;refine⟨rfl,fun v hv=> ?_⟩;simp only[pcells,txt,List.mem_cons,List.not_mem_nil,or_false]at hv
  rcases hv with rfl|rfl|rfl|rfl|rfl<;>rfl
theorem PaR.ps {w0 w:World} {B:Nat} {v:Value} {ps:List Pt} (h:PaR w0 w B v ps) (hm:ps.length≤maxLen):NewAt w0 w B fun W=>PsAt W v ps:=by
  obtain⟨css,h⟩:=h;refine⟨fun k=>False∨v.ownBlock=some k,h.lt,h.slat.imp fun W hW=> ?_⟩;obtain⟨⟨p,c,rfl,h1⟩,h2⟩:=hW
  have key:∀(k:Nat) (q:Pt) (u:Value),ps[k]? =some q→(css.map fun cs=>cs.getD 3 (.bool false))[k]? =some u→SpotAt W p k 5 (pcells q u)∧PsAt W u q.word:=fun k q u hq hu=>by
    rw[List.getElem?_map]at hu;obtain⟨cs,hcs,rfl⟩:=Option.map_eq_some_iff.1 hu;obtain⟨u',rfl,hu'⟩:=h2 k cs q hcs hq;exact⟨h1 k _ hcs,hu'⟩
  exact .mk p c ps _ (by rw[List.length_map,h.len]) hm (fun k q u hq hu=>(key k q u hq hu).1) (fun k q u hq hu=>(key k q u hq hu).2)
theorem PaR.adds {w0 w:World} {B:Nat} {v v':Value} {ps qs:List Pt} {css dss:List (List Value)} (h:RowG w0 w 55 5 PartP B v css ps (fun _=>False)) (hl:dss.length=qs.length) (hq:∀(k:Nat) (ds:List Value) (q:Pt),dss[k]? =some ds→qs[k]? =some q→PartP w0 ds q)
    {w2:World} (hown:w2.ownsRow B 55 5 v' (ps.length+qs.length) (css.flatten++dss.flatten)):PaR w0 w2 B v' (ps++qs):=by
  have hd:∀ds∈dss,Cel 5 ds:=fun ds hds=>by
    obtain⟨k,hk,rfl⟩:=List.mem_iff_getElem.1 hds;obtain⟨u,e,hu⟩:=hq k _ _ (List.getElem?_eq_getElem hk) (List.getElem?_eq_getElem (by rw[←hl];exact hk));rw[e];exact part_cel hu
  refine⟨css++dss,?_,by simp[h.len,hl],?_,?_,fun k hk=>hk.elim⟩
  · rw[List.length_append,List.flatten_append]
    exact hown
  · intro cs hcs
    exact(List.mem_append.1 hcs).elim (h.each cs) (hd cs)
  · intro k cs x h1 h2
    rcases Nat.lt_or_ge k ps.length with hk|hk
    · rw[List.getElem?_append_left (by rw[h.len];exact hk)]at h1
      rw[List.getElem?_append_left hk]at h2;exact(h.sub k cs x h1 h2).same fun i hi=>hi.elim
    · rw[List.getElem?_append_right (by rw[h.len];exact hk),h.len]at h1
      rw[List.getElem?_append_right hk]at h2;obtain⟨u,e,hu⟩:=hq _ _ _ h1 h2;exact Stays.of0 fun W hb=>⟨u,e,hu.stays hb⟩
theorem PsAt.more {w:World} {q:Pt} {r:List Pt} {b o c:Nat} (h:PsAt w (.slice (some ⟨b,o,none⟩) (r.length+1) c) (q::r)):∃dss:List (List Value),dss.length=r.length∧(∀(k:Nat) (ds:List Value) (x:Pt),dss[k]? =some ds→r[k]? =some x→PartP w ds x)∧(∀ds∈dss,Cel 5 ds)∧∀(j:Nat) (u:Value),dss.flatten[j]? =some u→w.cell? ⟨b,o+5+j,none⟩=some u:=by
  generalize hv:Value.slice (some ⟨b,o,none⟩) (r.length+1) c=v at h
  generalize hps:q::r=ps at h
  cases h with
  |mk p c' ps' us h1 h2 h3 h4=>
    subst hps;simp only[Value.slice.injEq]at hv;obtain⟨rfl, -,rfl⟩:=hv
    obtain⟨u0,us,rfl⟩:∃u0 us',us=u0::us':=by
      cases us with
      |nil=>simp at h1
      |cons a t=>exact⟨a,t,rfl⟩
    have hul:us.length=r.length:=(by simpa using h1);have hl:(List.zipWith pcells r us).length=r.length:=(by rw[List.length_zipWith,hul];simp)
    have hget:∀(k:Nat) (ds:List Value),(List.zipWith pcells r us)[k]? =some ds→∃x u,r[k]? =some x∧us[k]? =some u∧ds=pcells x u:=fun k ds hk=>by
      rw[List.getElem?_zipWith]at hk
      cases hr:r[k]? with
      |none=>rw[hr]at hk;simp at hk
      |some x=>
        cases hu:us[k]? with
        |none=>rw[hr,hu]at hk;simp at hk
        |some u=>rw[hr,hu]at hk;exact⟨x,u,rfl,rfl,by simpa using hk.symm⟩
    have hcel:∀ds∈List.zipWith pcells r us,Cel 5 ds:=fun ds hds=>by
      obtain⟨k,hk,rfl⟩:=List.mem_iff_getElem.1 hds;obtain⟨x,u,hx,hu,e⟩:=hget k _ (List.getElem?_eq_getElem hk);rw[e];exact part_cel (h4 (k+1) x u (by simpa using hx) (by simpa using hu))
    refine⟨List.zipWith pcells r us,hl,fun k ds x hk hx=> ?_,hcel,fun j u hj=> ?_⟩
    · obtain⟨x',u,hx',hu,e⟩:=hget k ds hk
      rw[hx]at hx'
      cases hx'
      exact⟨u,e,h4 (k+1) x u (by simpa using hx) (by simpa using hu)⟩
    · have hjl:=(List.getElem?_eq_some_iff.1 hj).1
      rw[flat_len hcel,hl]at hjl;have hk:j/5<r.length:=(by omega);obtain⟨x,ux,hx,hux,e⟩:=hget (j/5) _ (List.getElem?_eq_getElem (by rw[hl];exact hk));have hf:=flat_get hcel (j/5) _ (List.getElem?_eq_getElem (by rw[hl];exact hk)) (j % 5) (by omega);rw[show j/5*5+j % 5=j by omega,hj]at hf;obtain⟨b',o',he,hc⟩:=h3 (j/5+1) x ux (by simpa using hx) (by simpa using hux);simp only[Option.some.injEq,Addr.mk.injEq,and_true]at he;obtain⟨rfl,rfl⟩:=he;have:=hc (j % 5) u (by rw[←e];exact hf.symm)
      rwa [show o+(j/5+1)*5+j % 5=o+5+j by omega]at this
end Go.Proofs.YtcpmjkefbjbhpaaGreatDoor
