/-
  Proved: contracts of functions, plain facts. Conditions: as each says.
-/
import Derived.Test.YtakceggnadagmaaGreatDoorPq00
import Derived.Test.YtakceggnadagmaaGreatDoorRows
import Derived.Lib.Hide
import Derived.WalkKit
import Derived.IntWalk
import Derived.WalkSpells
import Derived.WalkLawsBesides
import Derived.Below
import Derived.LoopTactic
import Derived.Laws.Strings3
import Derived.Shelf.Small.Utf8
import Derived.Shelf.Small.Strs
import Derived.Shelf.Strings.BuilderK
import Derived.Shelf.Utf8.AppendRune
import Derived.Shelf.Strings.Search2
import Derived.Shelf.Strings.Runes
import Derived.Shelf.Unicode.DecodeAny
import Derived.Ground.NamesProg
import Derived.Test.YtakceggnadagmaaGreatDoorProg
namespace Go.Proofs.YtakceggnadagmaaGreatDoor.ParseMath
open Go Go.Lib GlyphMath LexMath TreeMath
def signsB:List (List UInt8):= [[38,38],[124,124],[59,59],[62,62],[59],[124],[40],[41],[62],[60],[10]]
structure MidT (t:Tk):Prop where
  at_:t.at_≤2000
  is:(t.kind=1∧t.text= []∧wordT t.word=true∧Small t.word∧t.word.length≤4000)∨(t.kind=2∧t.word= []∧signsB.contains t.text=true)
structure EndT (t:Tk):Prop where
  kind:t.kind=3
  text:t.text= []
  word:t.word= []
  at_:t.at_≤2000
inductive Row:List Tk→Prop
  |one (e:Tk):EndT e→Row [e]
  |more (t:Tk) (r:List Tk):MidT t→Row r→Row (t::r)
structure GoodS (S:PS):Prop where
  row:Row S.ts
  few:S.ts.length≤2001
  at_:S.at_≤2000
  err:S.err≤3
theorem MidT.ne {t:Tk} (h:MidT t):t.kind≠3:=by rcases h.is with h|h<;>rw[h.1]<;>decide
theorem Row.ne {l:List Tk} (h:Row l):l≠ []:=by cases h<;>simp
theorem Row.suf {l:List Tk} (h:Row l):∀ {r:List Tk},r<:+l→r≠ []→Row r:=by
  induction h with
  |one e he=>
    intro r hs hn
    rcases List.suffix_cons_iff.1 hs with rfl|h
    · exact .one e he
    · exact absurd (List.suffix_nil.1 h) hn
  |more t l ht hl ih=>
    intro r hs hn
    rcases List.suffix_cons_iff.1 hs with rfl|h
    · exact .more t l ht hl
    · exact ih h hn
theorem GoodS.hd {S:PS} (h:GoodS S):(EndT S.hd∧S.ts= [S.hd])∨(MidT S.hd∧Row S.ts.tail∧S.ts=S.hd::S.ts.tail):=by
  obtain⟨ts,a,e⟩:=S;have h:=h.row
  cases h with
  |one e he=>exact .inl ⟨he,rfl⟩
  |more t l ht hl=>exact .inr ⟨ht,hl,rfl⟩
theorem GoodS.at0 {S:PS} (h:GoodS S):S.hd.at_≤2000:=by
  rcases h.hd with ⟨h, -⟩|⟨h, -⟩<;>exact h.at_
theorem GoodS.pos {S:PS} (h:GoodS S):0<S.ts.length:=List.length_pos_iff.2 h.row.ne
structure To (S S':PS):Prop where
  good:GoodS S'
  suf:S'.ts<:+S.ts
theorem To.refl {S:PS} (h:GoodS S):To S S:=⟨h,List.suffix_refl _⟩
theorem To.trans {a b c:PS} (h:To a b) (k:To b c):To a c:=⟨k.good,k.suf.trans h.suf⟩
theorem To.len {S S':PS} (h:To S S'):S'.ts.length≤S.ts.length:=h.suf.length_le
theorem to_take {S:PS} (h:GoodS S):To S S.take:=by
  unfold PS.take
  split
  · exact To.refl h
  · rename_i hk
    rcases h.hd with ⟨h1, -⟩|⟨-,h1, -⟩
    · exact absurd h1.kind hk
    · exact⟨⟨h1,by have:=h.few;simp;omega,h.at_,h.err⟩,List.tail_suffix _⟩
theorem take_lt {S:PS} (h:GoodS S) (hk:S.hd.kind≠3):S.take.ts.length<S.ts.length:=by
  unfold PS.take;rw[if_neg hk];have:=h.pos;simp;omega
theorem to_fail {S:PS} (h:GoodS S) {e:Nat} (he:e≤3):To S (S.fail e):=by
  have hp:=h.pos;have hs:S.ts.drop (S.ts.length-1)<:+S.ts:=List.drop_suffix _ _
  have hn:S.ts.drop (S.ts.length-1)≠ []:=by
    apply List.length_pos_iff.1;simp;omega
  refine⟨⟨h.row.suf hs hn,?_,?_,?_⟩,hs⟩
  · simp[PS.fail];omega
  · show(if S.err=0 then S.hd.at_ else S.at_)≤2000
    split
    · exact h.at0
    · exact h.at_
  · show(if S.err=0 then e else S.err)≤3
    split
    · exact he
    · exact h.err
theorem fail_one {S:PS} (h:GoodS S) (e:Nat):(S.fail e).ts.length=1:=by
  have hp:=h.pos;simp[PS.fail];omega
theorem to_want {S:PS} (h:GoodS S) (b:Bool):To S (S.want b):=by
  unfold PS.want
  split
  · exact To.refl h
  · exact to_fail h (by decide)
theorem to_takes {S:PS} (h:GoodS S) (s:List UInt8):To S (S.takes s).2:=by
  unfold PS.takes
  split
  · exact to_take h
  · exact To.refl h
theorem to_need {S:PS} (h:GoodS S) (s:List UInt8):To S (S.need s):=by
  unfold PS.need
  split
  · exact to_take h
  · exact to_fail h (by decide)
theorem to_word {S:PS} (h:GoodS S):To S S.word.2:=(to_want h _).trans (to_take (to_want h _).good)
theorem to_name {S:PS} (h:GoodS S):To S S.name.2:=(to_want h _).trans (to_take (to_want h _).good)
theorem GoodS.tx3 {S:PS} (h:GoodS S) (hk:S.hd.kind=3):S.tx= []:=by
  rcases h.hd with ⟨h1, -⟩|⟨h1, -⟩
  · unfold PS.tx textK
    rw[if_neg (by rw[hk];decide),h1.text]
  · exact absurd hk h1.ne
theorem is_ne {S:PS} (h:GoodS S) {s:List UInt8} (hs:s≠ []) (hi:S.is s=true):S.hd.kind≠3:=by
  intro hk;unfold PS.is at hi;rw[h.tx3 hk]at hi;exact hs (by simpa using hi.symm)
theorem to_linesL:∀(f:Nat) {S:PS},GoodS S→To S (linesL f S)
  |0,_,h=>To.refl h
  |f+1,S,h=>by
    unfold linesL
    split
    · exact(to_take h).trans (to_linesL f (to_take h).good)
    · exact To.refl h
theorem to_lines {S:PS} (h:GoodS S):To S S.lines:=to_linesL _ h
theorem to_sep {S:PS} (h:GoodS S):To S S.sep.2:=by
  unfold PS.sep
  split
  · exact(to_take h).trans (to_lines (to_take h).good)
  · exact To.refl h
theorem sep_lt {S:PS} (h:GoodS S) (hs:S.sep.1=true):S.sep.2.ts.length<S.ts.length:=by
  unfold PS.sep at hs ⊢
  split at hs
  · rename_i hk
    rw[if_pos hk]
    have hn:S.hd.kind≠3:=by
      rcases Bool.or_eq_true_iff.1 hk with hk|hk
      · exact is_ne h (by decide) hk
      · exact is_ne h (by decide) hk
    exact Nat.lt_of_le_of_lt (to_lines (to_take h).good).len (take_lt h hn)
  · cases hs
theorem redir_ne {S:PS} (h:GoodS S) (hr:S.isRedir=true):S.hd.kind≠3:=by
  unfold PS.isRedir at hr
  rcases Bool.or_eq_true_iff.1 hr with hr|hr
  · exact is_ne h (by decide) hr
  · rcases Bool.or_eq_true_iff.1 hr with hr|hr
    · exact is_ne h (by decide) hr
    · exact is_ne h (by decide) hr
theorem isWord_ne {S:PS} (hr:S.isWord=true):S.hd.kind≠3:=by
  have:S.hd.kind=1:=(by simpa [PS.isWord]using hr);rw[this];decide
theorem to_redir {S:PS} (h:GoodS S):To S (redirM S).2:=(to_take h).trans (to_word (to_take h).good)
theorem redir_lt {S:PS} (h:GoodS S) (hr:S.isRedir=true):(redirM S).2.ts.length<S.ts.length:=Nat.lt_of_le_of_lt (to_word (to_take h).good).len (take_lt h (redir_ne h hr))
theorem word_lt {S:PS} (h:GoodS S) (hr:S.isWord=true):S.word.2.ts.length<S.ts.length:=by
  unfold PS.word PS.want;rw[hr];exact take_lt h (isWord_ne hr)
theorem two_of {S:PS} (h:GoodS S) (hk:S.hd.kind≠3):2≤S.ts.length:=by
  rcases h.hd with ⟨h1, -⟩|⟨-,h1,h2⟩
  · exact absurd h1.kind hk
  · have:=List.length_pos_iff.2 h1.ne
    simp at this;omega
theorem to_part {S:PS} (h:GoodS S) (n:Nd):To S (partM n S).2:=by
  unfold partM
  split
  · split
    · exact to_take h
    · split
      · exact to_fail h (by decide)
      · exact to_word h
  · exact to_word h
theorem part_lt {S:PS} (h:GoodS S) (n:Nd) (hr:S.isWord=true):(partM n S).2.ts.length<S.ts.length:=by
  unfold partM
  split
  · split
    · exact take_lt h (isWord_ne hr)
    · split
      · have:=two_of h (isWord_ne hr)
        rw[fail_one h];omega
      · exact word_lt h hr
  · exact word_lt h hr
theorem to_simpleL:∀(f:Nat) (n:Nd) {S:PS},GoodS S→To S (simpleL f n S).2
  |0,_,_,h=>To.refl h
  |f+1,n,S,h=>by
    unfold simpleL
    split
    · exact(to_redir h).trans (to_simpleL f _ (to_redir h).good)
    · split
      · exact(to_part h n).trans (to_simpleL f _ (to_part h n).good)
      · exact To.refl h
theorem to_simple {S:PS} (h:GoodS S):To S (simpleM S).2:=(to_want h _).trans (to_simpleL _ _ (to_want h _).good)
def DoOk (cmd:Do):Prop:=∀S,GoodS S→To S (cmd S).2
section
variable {cmd : Do} (hc : DoOk cmd)
include hc
theorem to_pipeL:∀(f:Nat) (l:List Tr) {S:PS},GoodS S→To S (pipeL cmd f l S).2
  |0,_,_,h=>To.refl h
  |f+1,l,S,h=>by
    unfold pipeL
    split
    · have h1:=(to_take h).trans (to_lines (to_take h).good)
      have h2:=h1.trans (hc _ h1.good);exact h2.trans (to_pipeL f _ h2.good)
    · exact To.refl h
theorem pipe_lt {S:PS} (h:GoodS S) {s:List UInt8} (hs:s≠ []) (hi:S.is s=true):(cmd S.take.lines).2.ts.length<S.ts.length:=by
  have h1:=to_take h;have h2:=to_lines h1.good;have:=(hc _ h2.good).len;have:=h2.len;have:=take_lt h (is_ne h hs hi);omega
theorem to_pipe:DoOk (pipeM cmd):=fun S h=>by
  unfold pipeM;have h1:=to_takes h [33];have h2:=h1.trans (hc _ h1.good);exact h2.trans (to_pipeL hc _ _ h2.good)
theorem to_andorL:∀(f:Nat) (n:Tr) {S:PS},GoodS S→To S (andorL cmd f n S).2
  |0,_,_,h=>To.refl h
  |f+1,n,S,h=>by
    have h1:=(to_take h).trans (to_lines (to_take h).good);have h2:=h1.trans (to_pipe hc _ h1.good);unfold andorL
    split
    · exact h2.trans (to_andorL f _ h2.good)
    · split
      · exact h2.trans (to_andorL f _ h2.good)
      · exact To.refl h
theorem to_andor:DoOk (andorM cmd):=fun S h=>(to_pipe hc S h).trans (to_andorL hc _ _ (to_pipe hc S h).good)
theorem to_listL:∀(f:Nat) (l:List Tr) {S:PS},GoodS S→To S (listL cmd f l S).2
  |0,_,_,h=>To.refl h
  |f+1,l,S,h=>by
    have h2:=(to_sep h).trans (to_andor hc _ (to_sep h).good);unfold listL
    split
    · exact h2.trans (to_listL f _ h2.good)
    · exact to_sep h
theorem to_list:DoOk (listM cmd):=fun S h=>by
  unfold listM;have h1:=(to_lines h).trans (to_andor hc _ (to_lines h).good);exact h1.trans (to_listL hc _ _ h1.good)
theorem to_enclosed (op cl:List UInt8):DoOk (enclosedM cmd op cl):=fun S h=>by
  have h1:=(to_take h).trans (to_list hc _ (to_take h).good);exact h1.trans (to_need h1.good _)
theorem to_body:DoOk (bodyM cmd):=fun S h=>by
  have h1:=(to_need h [100,111]).trans (to_list hc _ (to_need h _).good);exact h1.trans (to_need h1.good _)
theorem to_loop (op:List UInt8):DoOk (loopM cmd op):=fun S h=>by
  have h1:=(to_take h).trans (to_list hc _ (to_take h).good);exact h1.trans (to_body hc _ h1.good)
theorem to_branch {br:Do} (hb:DoOk br):DoOk (branchM cmd br):=fun S h=>by
  have h1:=(to_take h).trans (to_list hc _ (to_take h).good);have h2:=h1.trans (to_need h1.good [116,104,101,110]);have h3:=h2.trans (to_list hc _ h2.good);have h4:=h3.trans (hb _ h3.good);have h5:=h3.trans (to_take h3.good);have h6:=h5.trans (to_list hc _ h5.good);unfold branchM;dsimp only
  split
  · exact h4
  · split
    · exact h6.trans (to_need h6.good _)
    · exact h3.trans (to_need h3.good _)
omit hc in
theorem to_wordsL:∀(f:Nat) (l:List (List Pt)) {S:PS},GoodS S→To S (wordsL f l S).2
  |0,_,_,h=>To.refl h
  |f+1,l,S,h=>by
    unfold wordsL
    split
    · exact(to_word h).trans (to_wordsL f _ (to_word h).good)
    · exact To.refl h
theorem to_each:DoOk (eachM cmd):=fun S h=>by
  have h1:=(to_take h).trans (to_name (to_take h).good);have h2:=h1.trans (to_need h1.good [105,110]);have h3:=h2.trans (to_wordsL ((S.take.name.2.need [105,110]).ts.length) [] h2.good);have h4:=h3.trans (to_sep h3.good);exact h4.trans (to_body hc _ h4.good)
omit hc in
theorem to_patsL:∀(f:Nat) (l:List (List Pt)) {S:PS},GoodS S→To S (patsL f l S).2
  |0,_,_,h=>To.refl h
  |f+1,l,S,h=>by
    have h2:=(to_take h).trans (to_word (to_take h).good);unfold patsL
    split
    · exact h2.trans (to_patsL f _ h2.good)
    · exact To.refl h
omit hc in
theorem to_pats {S:PS} (h:GoodS S):To S (patsM S).2:=by
  have h1:=(to_takes h [40]).trans (to_word (to_takes h [40]).good);have h2:=h1.trans (to_patsL ((S.takes [40]).2.word.2.ts.length) [(S.takes [40]).2.word.1] h1.good);exact h2.trans (to_need h2.good _)
omit hc in
theorem word_le {S:PS} (h:GoodS S) (hk:S.hd.kind≠3):S.word.2.ts.length<S.ts.length:=by
  cases hw:S.isWord with
  |true=>exact word_lt h hw
  |false=>
    have h2:=two_of h hk;have h3:=(to_take (to_fail h (e:=2) (by decide)).good).len;unfold PS.word PS.want;rw[hw];have:=fail_one h 2;simp only[Bool.false_eq_true,if_false];omega
omit hc in
theorem pats_lt {S:PS} (h:GoodS S) (hk:S.hd.kind≠3):(patsM S).2.ts.length<S.ts.length:=by
  have h1:=to_takes h [40];have h2:=to_word h1.good;have h3:=to_patsL ((S.takes [40]).2.word.2.ts.length) [(S.takes [40]).2.word.1] h2.good;have h4:=to_need h3.good [41];have l3:=h3.len;have l4:=h4.len
  have l2:(S.takes [40]).2.word.2.ts.length<S.ts.length:=by
    unfold PS.takes
    split
    · rename_i hi
      exact Nat.lt_of_le_of_lt (to_word (to_take h).good).len (take_lt h hk)
    · exact word_le h hk
  have:(patsM S).2.ts.length≤(S.takes [40]).2.word.2.ts.length:=Nat.le_trans l4 l3;omega
theorem to_choiceR {S:PS} (h:GoodS S):To S ((listM cmd (patsM S).2).2.need [59,59]).lines:=by
  have h1:=(to_pats h).trans (to_list hc _ (to_pats h).good);have h2:=h1.trans (to_need h1.good [59,59]);exact h2.trans (to_lines h2.good)
theorem choice_lt {S:PS} (h:GoodS S) (hk:S.hd.kind≠3):((listM cmd (patsM S).2).2.need [59,59]).lines.ts.length<S.ts.length:=by
  have h1:=to_pats h;have h2:=to_list hc _ h1.good;have h3:=to_need h2.good [59,59];have l2:=h2.len;have l3:=h3.len;have l4:=(to_lines h3.good).len;have:=pats_lt h hk;omega
theorem to_choiceL:∀(f:Nat) (ps:List (List (List Pt))) (l:List Tr) {S:PS},GoodS S→To S (choiceL cmd f ps l S).st
  |0,_,_,_,h=>To.refl h
  |f+1,ps,l,S,h=>by
    unfold choiceL
    split
    · exact To.refl h
    · exact(to_choiceR hc h).trans (to_choiceL f _ _ (to_choiceR hc h).good)
theorem to_choice:DoOk (choiceM cmd):=fun S h=>by
  have h1:=(to_take h).trans (to_word (to_take h).good);have h2:=h1.trans (to_need h1.good [105,110]);have h3:=h2.trans (to_lines h2.good);have h4:=h3.trans (to_choiceL hc ((S.take.word.2.need [105,110]).lines.ts.length) [] [] h3.good);exact h4.trans (to_need h4.good _)
theorem to_compound {br:Do} (hb:DoOk br) {S:PS} (h:GoodS S) {r:Tr×PS} (hr:compoundM cmd br S=some r):To S r.2:=by
  unfold compoundM at hr
  repeat' split at hr
  all_goals cases hr
  · exact to_enclosed hc _ _ _ h
  · exact to_enclosed hc _ _ _ h
  · exact to_branch hc hb _ h
  · exact to_loop hc _ _ h
  · exact to_loop hc _ _ h
  · exact to_each hc _ h
  · exact to_choice hc _ h
omit hc in
theorem to_redirsL:∀(f:Nat) (n:Nd) {S:PS},GoodS S→To S (redirsL f n S).2
  |0,_,_,h=>To.refl h
  |f+1,n,S,h=>by
    unfold redirsL
    split
    · exact(to_redir h).trans (to_redirsL f _ (to_redir h).good)
    · exact To.refl h
omit hc in
theorem to_fun {held:Do} (hh:DoOk held):DoOk (funM held):=fun S h=>by
  have h1:=to_name h;have h2:=h1.trans (to_need h1.good [40]);have h3:=h2.trans (to_need h2.good [41]);have h4:=h3.trans (to_lines h3.good);exact h4.trans (hh _ h4.good)
theorem to_command {br held:Do} (hb:DoOk br) (hh:DoOk held):DoOk (commandM cmd br held):=fun S h=>by
  unfold commandM
  split
  · exact to_fun hh _ h
  · split
    · rename_i r hr
      have h1:=to_compound hc hb h hr;exact h1.trans (to_redirsL _ _ h1.good)
    · exact to_simple h
theorem to_held:DoOk (heldM cmd):=fun S h=>by
  unfold heldM
  split
  · exact to_enclosed hc _ _ _ h
  · split
    · exact to_enclosed hc _ _ _ h
    · exact to_fail h (by decide)
end
theorem to_lv:∀k,DoOk (lv k).cmd∧DoOk (lv k).br∧DoOk (lv k).held
  |0=>⟨fun S h=>(to_fail h (by decide)).trans (to_simple (to_fail h (by decide)).good),fun S h=>To.refl h,fun S h=>to_fail h (by decide)⟩
  |k+1=>by
    obtain⟨h1,h2,h3⟩:=to_lv k;exact⟨to_command h1 h2 h3,to_branch h1 h2,to_held h1⟩
def Dead (S:PS):Prop:=S.ts.length=1
theorem To.dead {S S':PS} (h:To S S') (hd:Dead S):Dead S':=by
  have:=h.len;have:=h.good.pos;unfold Dead at*;omega
theorem Dead.kind {S:PS} (h:GoodS S) (hd:Dead S):S.hd.kind=3:=by
  apply Classical.byContradiction;intro hk;have:=two_of h hk;unfold Dead at hd;omega
theorem Dead.is {S:PS} (h:GoodS S) (hd:Dead S) {s:List UInt8} (hs:s≠ []):S.is s=false:=by
  cases hi:S.is s with
  |false=>rfl
  |true=>exact absurd (Dead.kind h hd) (is_ne h hs hi)
theorem cmd0_dead {S:PS} (h:GoodS S):Dead ((lv 0).cmd S).2:=(to_simple (to_fail h (by decide)).good).dead (fail_one h 3)
theorem list_dead {cmd:Do} (hc:DoOk cmd) (hd:∀S,GoodS S→Dead (cmd S).2) {S:PS} (h:GoodS S):Dead (listM cmd S).2:=by
  have h0:=to_lines h;have h1:=to_takes h0.good [33];have h2:=hc _ h1.good;have h3:=(to_pipeL hc ((cmd (S.lines.takes [33]).2).2.ts.length) [(cmd (S.lines.takes [33]).2).1] h2.good);have d3:Dead (pipeM cmd S.lines).2:=h3.dead (hd _ h1.good);have h4:=to_pipe hc _ h0.good;have h5:=to_andorL hc ((pipeM cmd S.lines).2.ts.length) (pipeM cmd S.lines).1 h4.good;have d4:Dead (andorM cmd S.lines).2:=h5.dead d3;have h6:=to_andor hc _ h0.good;exact(to_listL hc ((andorM cmd S.lines).2.ts.length) [(andorM cmd S.lines).1] h6.good).dead d4
theorem list0_dead {S:PS} (h:GoodS S):Dead (listM (lv 0).cmd S).2:=list_dead (to_lv 0).1 (fun _ h=>cmd0_dead h) h
mutual
def sizeT:Tr→Nat
  | .mk _ kids=>1+sizeL kids
def sizeL:List Tr→Nat
  | []=>0
  |t::r=>sizeT t+sizeL r
end
mutual
theorem laidM_length:∀(t:Tr) (l:List Nd),(laidM t l).length=l.length+sizeT t
  | .mk n kids,l=>by
    rw[laidM,laidL_length l.length kids,sizeT];simp only[List.length_append,List.length_singleton];omega
theorem laidL_length:∀(a:Nat) (ts:List Tr) (l:List Nd),(laidL a ts l).length=l.length+sizeL ts
  |a,[],l=>by rw[laidL,sizeL,Nat.add_zero]
  |a,t::r,l=>by
    rw[laidL,laidL_length a r,laidM_length t,List.length_modify,sizeL];omega
end
theorem sizeL_append (l r:List Tr):sizeL (l++r)=sizeL l+sizeL r:=by
  induction l with
  |nil=>simp[sizeL]
  |cons a l ih=>rw[List.cons_append,sizeL,sizeL,ih,Nat.add_assoc]
theorem sizeL_one (t:Tr):sizeL [t]=sizeT t:=by simp[sizeL]
theorem sizeL_push (l:List Tr) (t:Tr):sizeL (l++ [t])=sizeL l+sizeT t:=by rw[sizeL_append,sizeL_one]
theorem sizeT_of (op:List UInt8) (l:List Tr):sizeT (trOf op l)=1+sizeL l:=by rw[trOf,sizeT]
theorem sizeT_leaf (n:Nd):sizeT (.mk n [])=1:=by simp[sizeT,sizeL]
theorem sizeT_node (n m:Nd) (l:List Tr):sizeT (.mk n l)=sizeT (.mk m l):=by rw[sizeT,sizeT]
theorem sizeT_kids (t:Tr) (n:Nd):sizeT (.mk n t.kids)=sizeT t:=by
  cases t
  exact sizeT_node _ _ _
theorem size_several {op:List UInt8} :∀ {l:List Tr},1≤l.length→sizeT (several op l)+1≤sizeL l+l.length
  | [],h=>absurd h (by decide)
  | [t],_=>by simp[several,sizeL]
  |a::b::r,_=>by
    rw[several,sizeT_of]
    · simp only[List.length_cons];omega
    · simp
def SzAt (S:PS) (r:Tr×PS):Prop:=sizeT r.1+4*r.2.ts.length≤4*S.ts.length+1
def DoSz (cmd:Do):Prop:=∀S,GoodS S→SzAt S (cmd S)
def BrSz (br:Do):Prop:=∀S,GoodS S→S.hd.kind≠3→SzAt S (br S)
section
variable {cmd : Do} (hc : DoOk cmd) (hs : DoSz cmd)
include hc hs
theorem sz_pipeL:∀(f:Nat) (l:List Tr) {S:PS},GoodS S→l.length≤(pipeL cmd f l S).1.length∧sizeL (pipeL cmd f l S).1+(pipeL cmd f l S).1.length+4*(pipeL cmd f l S).2.ts.length≤sizeL l+l.length+4*S.ts.length
  |0,_,_,_=>⟨Nat.le_refl _,Nat.le_refl _⟩
  |f+1,l,S,h=>by
    unfold pipeL
    split
    · rename_i hi
      have h1:=(to_take h).trans (to_lines (to_take h).good);have h2:=h1.trans (hc _ h1.good);have hx:=sz_pipeL f (l++ [(cmd S.take.lines).1]) h2.good;have hb:=hs _ h1.good;have ht:=take_lt h (is_ne h (by decide) hi);have hl:=(to_lines (to_take h).good).len;simp only[SzAt,sizeL_push,List.length_append,List.length_singleton]at hx hb ⊢;omega
    · exact⟨Nat.le_refl _,Nat.le_refl _⟩
theorem sz_pipe:DoSz (pipeM cmd):=fun S h=>by
  unfold pipeM;have h1:=to_takes h [33];have h2:=hc _ h1.good;have hx:=sz_pipeL hc hs (cmd (S.takes [33]).2).2.ts.length [(cmd (S.takes [33]).2).1] h2.good;have hb:=hs _ h1.good;have hv:=size_several (op:= [112,105,112,101]) (l:=(pipeL cmd (cmd (S.takes [33]).2).2.ts.length [(cmd (S.takes [33]).2).1] (cmd (S.takes [33]).2).2).1) (by have:=hx.1;simpa using this);simp only[SzAt,sizeL_one,List.length_singleton]at hx hb ⊢
  cases hi:S.is [33]with
  |true=>
    have ht:=take_lt h (is_ne h (by decide) hi);have e1:(S.takes [33]).1=true:=(by unfold PS.takes;rw[hi];rfl);have e2:(S.takes [33]).2=S.take:=(by unfold PS.takes;rw[hi];rfl);rw[e2]at hx hb hv;rw[e1,e2];simp only[if_true,sizeT_of,sizeL_one];omega
  |false=>
    have e1:(S.takes [33]).1=false:=(by unfold PS.takes;rw[hi];rfl);have e2:(S.takes [33]).2=S:=(by unfold PS.takes;rw[hi];rfl);rw[e2]at hx hb hv;rw[e1,e2];simp only[Bool.false_eq_true,if_false];omega
theorem sz_andorL:∀(f:Nat) (n:Tr) {S:PS},GoodS S→sizeT (andorL cmd f n S).1+4*(andorL cmd f n S).2.ts.length≤sizeT n+4*S.ts.length
  |0,_,_,_=>Nat.le_refl _
  |f+1,n,S,h=>by
    have h1:=(to_take h).trans (to_lines (to_take h).good);have h2:=h1.trans (to_pipe hc _ h1.good);have hb:=sz_pipe hc hs _ h1.good;have hl:=(to_lines (to_take h).good).len;unfold andorL
    split
    · rename_i hi
      have ht:=take_lt h (is_ne h (by decide) hi);have hx:=sz_andorL f (trOf [97,110,100] [n,(pipeM cmd S.take.lines).1]) h2.good;simp only[SzAt,sizeT_of,sizeL]at hx hb ⊢;omega
    · split
      · rename_i hi
        have ht:=take_lt h (is_ne h (by decide) hi);have hx:=sz_andorL f (trOf [111,114] [n,(pipeM cmd S.take.lines).1]) h2.good;simp only[SzAt,sizeT_of,sizeL]at hx hb ⊢;omega
      · exact Nat.le_refl _
theorem sz_andor:DoSz (andorM cmd):=fun S h=>by
  have h1:=sz_pipe hc hs S h;have h2:=sz_andorL hc hs (pipeM cmd S).2.ts.length (pipeM cmd S).1 (to_pipe hc S h).good;unfold SzAt andorM at*;omega
theorem sz_listL:∀(f:Nat) (l:List Tr) {S:PS},GoodS S→l.length≤(listL cmd f l S).1.length∧sizeL (listL cmd f l S).1+(listL cmd f l S).1.length+4*(listL cmd f l S).2.ts.length≤sizeL l+l.length+4*S.ts.length
  |0,_,_,_=>⟨Nat.le_refl _,Nat.le_refl _⟩
  |f+1,l,S,h=>by
    have h2:=(to_sep h).trans (to_andor hc _ (to_sep h).good);have hb:=sz_andor hc hs _ (to_sep h).good;have hl:=(to_sep h).len;unfold listL
    split
    · rename_i hi
      rw[Bool.and_eq_true]at hi;have ht:=sep_lt h hi.1;have hx:=sz_listL f (l++ [(andorM cmd S.sep.2).1]) h2.good;simp only[SzAt,sizeL_push,List.length_append,List.length_singleton]at hx hb ⊢;omega
    · dsimp only
      omega
theorem sz_list:DoSz (listM cmd):=fun S h=>by
  unfold listM;have h1:=(to_lines h).trans (to_andor hc _ (to_lines h).good);have hb:=sz_andor hc hs _ (to_lines h).good;have hl:=(to_lines h).len;have hx:=sz_listL hc hs (andorM cmd S.lines).2.ts.length [(andorM cmd S.lines).1] h1.good;have hv:=size_several (op:= [115,101,113]) (l:=(listL cmd (andorM cmd S.lines).2.ts.length [(andorM cmd S.lines).1] (andorM cmd S.lines).2).1) (by have:=hx.1;simpa using this);simp only[SzAt,sizeL_one,List.length_singleton]at hx hb hv ⊢;omega
theorem sz_enclosed (op cl:List UInt8) {S:PS} (h:GoodS S) (hk:S.hd.kind≠3):SzAt S (enclosedM cmd op cl S):=by
  have h1:=to_take h;have h2:=to_list hc _ h1.good;have hb:=sz_list hc hs _ h1.good;have hn:=(to_need h2.good cl).len;have ht:=take_lt h hk;unfold SzAt enclosedM at*;simp only[sizeT_of,sizeL_one];omega
theorem sz_body:DoSz (bodyM cmd):=fun S h=>by
  have h1:=to_need h [100,111];have h2:=to_list hc _ h1.good;have hb:=sz_list hc hs _ h1.good;have hn:=(to_need h2.good [100,111,110,101]).len;have hl:=h1.len;unfold SzAt bodyM at*;dsimp only;omega
theorem sz_loop (op:List UInt8) {S:PS} (h:GoodS S) (hk:S.hd.kind≠3):SzAt S (loopM cmd op S):=by
  have h1:=to_take h;have h2:=to_list hc _ h1.good;have hb:=sz_list hc hs _ h1.good;have hn:=sz_body hc hs _ h2.good;have ht:=take_lt h hk;unfold SzAt loopM at*;simp only[sizeT_of,sizeL];omega
theorem sz_branch {br:Do} (hb:BrSz br):BrSz (branchM cmd br):=fun S h hk=>by
  have h1:=to_take h;have s1:=sz_list hc hs _ h1.good;have h2:=to_list hc _ h1.good;have h3:=to_need h2.good [116,104,101,110];have s3:=sz_list hc hs _ h3.good;have h4:=to_list hc _ h3.good;have l3:=h3.len;have ht:=take_lt h hk;unfold SzAt branchM at*;dsimp only
  split
  · rename_i hi
    have s5:=hb _ h4.good (is_ne h4.good (by decide) hi);unfold SzAt at s5;simp only[sizeT_of,sizeL];omega
  · split
    · rename_i hi
      have h5:=to_take h4.good;have s5:=sz_list hc hs _ h5.good;have h6:=to_list hc _ h5.good;have l6:=(to_need h6.good [102,105]).len;have l5:=h5.len;unfold SzAt at s5;simp only[sizeT_of,sizeL];omega
    · have l6:=(to_need h4.good [102,105]).len
      simp only[sizeT_of,sizeL];omega
theorem sz_each {S:PS} (h:GoodS S) (hk:S.hd.kind≠3):SzAt S (eachM cmd S):=by
  have h1:=to_take h;have h2:=to_name h1.good;have h3:=to_need h2.good [105,110];have h4:=to_wordsL ((S.take.name.2.need [105,110]).ts.length) [] h3.good;have h5:=to_sep h4.good;have hn:=sz_body hc hs _ h5.good;have ht:=take_lt h hk;have:=h2.len;have:=h3.len;have:=h4.len;have:=h5.len;unfold SzAt eachM at*;simp only[sizeT,sizeL_one];omega
theorem sz_choiceL:∀(f:Nat) (ps:List (List (List Pt))) (l:List Tr) {S:PS},GoodS S→sizeL (choiceL cmd f ps l S).kids+4*(choiceL cmd f ps l S).st.ts.length≤sizeL l+4*S.ts.length
  |0,_,_,_,_=>Nat.le_refl _
  |f+1,ps,l,S,h=>by
    unfold choiceL
    split
    · exact Nat.le_refl _
    · rename_i hi
      have hk:S.hd.kind≠3:=fun e=>hi (by rw[e];simp);have hx:=sz_choiceL f (ps++ [(patsM S).1]) (l++ [(listM cmd (patsM S).2).1]) (to_choiceR hc h).good;have hp:=pats_lt h hk;have h1:=to_pats h;have h2:=to_list hc _ h1.good;have hb:=sz_list hc hs _ h1.good;have h3:=to_need h2.good [59,59];have h4:=to_lines h3.good;have:=h3.len;have:=h4.len;simp only[SzAt,sizeL_push]at hx hb ⊢;omega
theorem sz_choice {S:PS} (h:GoodS S) (hk:S.hd.kind≠3):SzAt S (choiceM cmd S):=by
  have h1:=to_take h;have h2:=to_word h1.good;have h3:=to_need h2.good [105,110];have h4:=to_lines h3.good;have h5:=to_choiceL hc ((S.take.word.2.need [105,110]).lines.ts.length) [] [] h4.good;have hx:=sz_choiceL hc hs ((S.take.word.2.need [105,110]).lines.ts.length) [] [] h4.good;have h6:=to_need h5.good [101,115,97,99];have ht:=take_lt h hk;have:=h2.len;have:=h3.len;have:=h4.len;have:=h6.len;unfold SzAt choiceM at*;simp only[sizeT,sizeL]at hx ⊢;omega
theorem sz_compound {br:Do} (hb:BrSz br) {S:PS} (h:GoodS S) {r:Tr×PS} (hr:compoundM cmd br S=some r):SzAt S r:=by
  unfold compoundM at hr
  repeat' split at hr
  all_goals cases hr
  all_goals rename_i hi
  · exact sz_enclosed hc hs _ _ h (is_ne h (by decide) hi)
  · exact sz_enclosed hc hs _ _ h (is_ne h (by decide) hi)
  · exact sz_branch hc hs hb _ h (is_ne h (by decide) hi)
  · exact sz_loop hc hs _ h (is_ne h (by decide) hi)
  · exact sz_loop hc hs _ h (is_ne h (by decide) hi)
  · exact sz_each hc hs h (is_ne h (by decide) hi)
  · exact sz_choice hc hs h (is_ne h (by decide) hi)
omit hc hs in
theorem sz_simple {S:PS} (h:GoodS S):SzAt S (simpleM S):=by
  have:=(to_simple h).len;unfold SzAt;have e:sizeT (simpleM S).1=1:=(by unfold simpleM;exact sizeT_leaf _);omega
omit hc hs in
theorem sz_fun {held:Do} (sh:DoSz held) {S:PS} (h:GoodS S) (hf:S.isFun=true):SzAt S (funM held S):=by
  have h1:=to_name h;have h2:=to_need h1.good [40];have h3:=to_need h2.good [41];have h4:=to_lines h3.good;have hn:=sh _ h4.good
  have hname:S.isName=true:=by
    unfold PS.isFun at hf;rw[Bool.and_eq_true]at hf;exact hf.1
  have hk:S.hd.kind≠3:=fun e=>by
    unfold PS.isName at hname;rw[h.tx3 e]at hname
    revert hname
    decide+kernel
  have ht:S.name.2.ts.length<S.ts.length:=by
    have e:S.name.2=S.take:=(by unfold PS.name PS.want;rw[hname];rfl);rw[e];exact take_lt h hk
  have:=h2.len;have:=h3.len;have:=h4.len;unfold SzAt funM at*;simp only[sizeT,sizeL_one];omega
theorem sz_command {br held:Do} (hb:DoOk br) (sb:BrSz br) (sh:DoSz held):DoSz (commandM cmd br held):=fun S h=>by
  unfold commandM
  split
  · rename_i hf
    exact sz_fun sh h hf
  · split
    · rename_i r hr
      have h1:=to_compound hc hb h hr;have s1:=sz_compound hc hs sb h hr;have h2:=(to_redirsL r.2.ts.length r.1.node h1.good).len;unfold SzAt redirsM at*;rw[sizeT_kids];dsimp only;omega
    · exact sz_simple h
theorem sz_held:DoSz (heldM cmd):=fun S h=>by
  unfold heldM
  split
  · rename_i hi
    exact sz_enclosed hc hs _ _ h (is_ne h (by decide) hi)
  · split
    · rename_i hi
      exact sz_enclosed hc hs _ _ h (is_ne h (by decide) hi)
    · have:=(to_fail h (e:=2) (by decide)).len
      unfold SzAt tr0;rw[sizeT_leaf];dsimp only;omega
end
theorem sz_lv:∀k,DoSz (lv k).cmd∧BrSz (lv k).br∧DoSz (lv k).held
  |0=>by
    refine⟨fun S h=> ?_,fun S h _=> ?_,fun S h=> ?_⟩
    · have h1:=to_fail h (e:=3) (by decide)
      have:=sz_simple h1.good;have:=h1.len;show SzAt S (simpleM (S.fail 3));unfold SzAt at*;omega
    · unfold SzAt lv tr0
      rw[sizeT_leaf];dsimp only;omega
    · have:=(to_fail h (e:=3) (by decide)).len
      unfold SzAt lv tr0;rw[sizeT_leaf];dsimp only;omega
  |k+1=>by
    obtain⟨h1,h2,h3⟩:=sz_lv k;obtain⟨k1,k2,k3⟩:=to_lv k;exact⟨sz_command k1 h1 k2 h2 h3,sz_branch k1 h1 h2,sz_held k1 h1⟩
theorem script_size {S:PS} (h:GoodS S):sizeT (scriptM S).1≤4*S.ts.length+1:=by
  have:=sz_list (to_lv 20).1 (sz_lv 20).1 S h;unfold SzAt at this;unfold scriptM;dsimp only;omega
end Go.Proofs.YtakceggnadagmaaGreatDoor.ParseMath
namespace Go.Proofs.YtakceggnadagmaaGreatDoor.LexMath
open Go Go.Lib GlyphMath
def Less (xs ys:List Nat):Prop:=Suf xs ys∧ys.length<xs.length
theorem Less.suf {a b c:List Nat} (h:Less a b) (k:Suf b c):Less a c:=⟨h.1.trans k,by have:=k.len;have:=h.2;omega⟩
theorem Suf.less {a b c:List Nat} (h:Suf a b) (k:Less b c):Less a c:=⟨h.trans k.1,by have:=h.len;have:=k.2;omega⟩
theorem tail_less {xs:List Nat} (h:xs≠ []):Less xs xs.tail:=by
  cases xs with
  |nil=>exact absurd rfl h
  |cons a r=>exact⟨Suf.tail _,by simp⟩
theorem takes_less {p xs ys:List Nat} (h:takes p xs=some ys) (hp:p≠ []):Less xs ys:=by
  refine⟨Suf.takes h,?_⟩;rw[takes_length p xs ys h,List.length_append];have:=List.length_pos_iff.2 hp;omega
theorem escaped_less {xs ys:List Nat} {ps qs:List Pt} (h:escapedM xs ps= .ok (qs,ys)):Less xs ys∧(Fits xs ps→Fits ys qs):=by
  unfold escapedM at h
  cases ht:xs.tail with
  |nil=>rw[ht]at h;cases h
  |cons c r=>
    rw[ht]at h
    cases h
    have hx:xs≠ []:=fun e=>(by rw[e]at ht;cases ht);have h1:=tail_less hx;rw[ht]at h1;have h2:Less xs ys:=h1.suf ⟨[c],rfl⟩;have h3:=h1.2;simp only[List.length_cons]at h3;exact⟨h2,fun hf=>hf.lit _ _ (by omega) (by have:=(enc_length [c]).2;simp only[List.length_singleton]at this;omega)⟩
theorem escapedWithin_less {xs ys:List Nat} {ps qs:List Pt} (h:escapedWithinM xs ps= .ok (qs,ys)):Less xs ys∧(Fits xs ps→Fits ys qs):=by
  unfold escapedWithinM at h
  cases ht:xs.tail with
  |nil=>rw[ht]at h;cases h
  |cons c r=>
    rw[ht]at h
    cases h
    have hx:xs≠ []:=fun e=>(by rw[e]at ht;cases ht);have h1:=tail_less hx;rw[ht]at h1;have h3:=h1.2;simp only[List.length_cons]at h3;have h2:Less xs ys:=h1.suf ⟨[c],rfl⟩;have h4:=(enc_length [c]).2;simp only[List.length_singleton]at h4;refine⟨h2,fun hf=> ?_⟩
    cases acts c with
    |true=>exact hf.lit _ _ (by omega) (by omega)
    |false=>
      have hf1:Fits (c::ys) (lit ps [92] true):=hf.lit _ _ (by simp only[List.length_cons];omega) (by simp only[List.length_cons,List.length_nil];omega);exact hf1.lit _ _ (by simp) (by simp only[List.length_cons];omega)
theorem single_less {xs ys:List Nat} {ps qs:List Pt} (h:singleM xs ps= .ok (qs,ys)) (hx:xs≠ []):Less xs ys∧(Fits xs ps→Fits ys qs):=by
  unfold singleM at h;have h1:=tail_less hx
  cases ht:takes [39] (left (fun r=>r==39) xs.tail)with
  |none=>rw[ht]at h;cases h
  |some r=>
    rw[ht]at h
    cases h
    have h2:=takes_less ht (by decide);have h3:=got_length (fun r=>r==39) xs.tail;have h4:=(enc_length (got (fun r=>r==39) xs.tail)).2;have h5:=h1.2;have h6:=h2.2;exact⟨h1.suf ((Suf.left _ _).trans h2.1),fun hf=>hf.lit _ _ (by omega) (by omega)⟩
theorem parameter_suf {xs ys:List Nat} {l:List Nat} (h:parameterM xs= .ok (l,ys)):Suf xs ys∧l.length+ys.length≤xs.length∧ys.length<xs.length:=by
  unfold parameterM at h
  cases xs with
  |nil=>
    have e1:other (next [])=false:=rfl;rw[e1]at h;simp[got,nameL]at h
  |cons a r=>
    split at h
    · cases h
      exact⟨⟨[a],rfl⟩,by simp only[List.length_cons,List.length_nil,List.tail_cons];omega,by simp⟩
    · split at h
      · rename_i hn
        cases h
        have h3:=got_length (fun r=> !moreR r) (a::r);refine⟨Suf.left _ _,by omega,?_⟩
        cases hg:got (fun r=> !moreR r) (a::r)with
        |nil=>rw[hg]at hn;simp[nameL]at hn
        |cons b s=>rw[hg,List.length_cons]at h3;omega
      · cases h
theorem op_suf {nm:Bool} {xs ys:List Nat} {o:List UInt8} (h:opM nm xs=some (o,ys)):Less xs ys:=by
  unfold opM at h
  split at h
  · rename_i hs;cases h;exact takes_less hs (by decide)
  · split at h
    · rename_i hs;cases h;exact takes_less hs (by decide)
    · split at h
      · split at h
        · rename_i hs;cases h;exact takes_less hs (by decide)
        · cases h
      · cases h
theorem close_less {xs ys:List Nat} {p q:Pt} (h:closeM p xs= .ok (q,ys)):Less xs ys∧q=p:=by
  unfold closeM at h
  split at h
  · rename_i hs;cases h;exact⟨takes_less hs (by decide),rfl⟩
  · cases h
def PartsOk (f:List Nat→Res (List Pt)):Prop:=∀xs ps ys,f xs= .ok (ps,ys)→Suf xs ys
def BraceOk (f:List Nat→Res Pt):Prop:=∀xs p ys,f xs= .ok (p,ys)→Less xs ys∧p.text.length+4*ys.length≤4*xs.length
theorem operation_ok {f:List Nat→Res (List Pt)} (hf:PartsOk f) {l xs ys:List Nat} {p:Pt} (h:operationM f l xs= .ok (p,ys)):Suf xs ys∧p.text.length+4*ys.length≤4*xs.length+4*l.length:=by
  unfold operationM at h
  split at h
  · cases hp:parameterM xs with
    |error e=>rw[hp]at h;cases h
    |ok a=>
      obtain⟨l',r⟩:=a;rw[hp]at h
      cases h
      obtain⟨h1,h2,_⟩:=parameter_suf hp;have:=(enc_length l').2;exact⟨h1,by simp only;omega⟩
  · cases hp:opM (nameL l) xs with
    |none=>rw[hp]at h;cases h
    |some a=>
      obtain⟨o,r⟩:=a;rw[hp]at h;simp only at h;have h1:=op_suf hp
      cases hq:f r with
      |error e=>rw[hq]at h;cases h
      |ok b=>
        obtain⟨w,r'⟩:=b;rw[hq]at h
        cases h
        have h2:=hf _ _ _ hq;have:=(enc_length l).2;have:=h2.len;have:=h1.2;exact⟨h1.1.trans h2,by simp only;omega⟩
theorem braces_ok {f:List Nat→Res (List Pt)} (hf:PartsOk f) (lim:Bool):BraceOk (bracesM lim f):=by
  intro xs p ys h;unfold bracesM at h
  split at h
  · cases h
  · cases hp:parameterM xs with
    |error e=>rw[hp]at h;cases h
    |ok a=>
      obtain⟨l,r⟩:=a;rw[hp]at h;simp only at h;obtain⟨h1,h2,h3⟩:=parameter_suf hp
      split at h
      · obtain⟨k1,rfl⟩:=close_less h
        have:=(enc_length l).2;have:=k1.2;exact⟨h1.less k1,by simp only;omega⟩
      · cases hq:operationM f l r with
        |error e=>rw[hq]at h;cases h
        |ok b=>
          obtain⟨p',r'⟩:=b;rw[hq]at h;simp only at h;obtain⟨k1,k2⟩:=close_less h;obtain⟨m1,m2⟩:=operation_ok hf hq;have:=k1.2;rw[k2];exact⟨(h1.trans m1).less k1,by omega⟩
theorem arith_suf:∀(xs:List Nat) (n:Nat) (acc l ys:List Nat),arithM xs n acc= .ok (l,ys)→Suf xs ys∧l.length+ys.length≤acc.length+xs.length∧(ys.length<xs.length)
  | [],n,acc,l,ys,h=>by cases h
  |c::r,n,acc,l,ys,h=>by
    rw[arithM]at h
    split at h
    · split at h
      · cases h
        cases r with
        |nil=>exact⟨⟨[c],rfl⟩,by simp,by simp⟩
        |cons d s=>exact⟨⟨[c,d],rfl⟩,by simp only[List.tail_cons,List.length_cons];omega,by simp only[List.tail_cons,List.length_cons];omega⟩
      · cases h
    · split at h
      · obtain⟨h1,h2,h3⟩:=arith_suf r _ _ _ _ h
        refine⟨Suf.trans ⟨[c],rfl⟩ h1,?_,?_⟩
        · simp only[List.length_append,List.length_nil,List.length_cons]at h2 ⊢;omega
        · simp only[List.length_cons];omega
      · cases h
theorem dollar_less {br:List Nat→Res Pt} (hb:BraceOk br) {q:Bool} {xs ys:List Nat} {ps qs:List Pt} (h:dollarM br q xs ps= .ok (qs,ys)) (hx:xs≠ []):Less xs ys∧(Fits xs ps→Fits ys qs):=by
  unfold dollarM at h;have h0:=tail_less hx;have h00:=h0.2
  split at h
  · rename_i r hs
    have h1:=takes_less hs (by decide);have h11:=h1.2
    cases hp:br r with
    |error e=>rw[hp]at h;cases h
    |ok a=>
      obtain⟨p,r'⟩:=a;rw[hp]at h
      cases h
      obtain⟨h2,h3⟩:=hb _ _ _ hp;have h22:=h2.2;exact⟨h0.suf (h1.1.trans h2.1),fun hf=>hf.add (by omega) (by have:=hf.1;simp only;omega)⟩
  · split at h
    · rename_i r hs
      have h1:=takes_less hs (by decide);have h11:=h1.2
      cases hp:arithM r 0 []with
      |error e=>rw[hp]at h;cases h
      |ok a=>
        obtain⟨l,r'⟩:=a;rw[hp]at h
        cases h
        obtain⟨h2,h3,h4⟩:=arith_suf _ _ _ _ _ hp;have h5:=(enc_length l).2;simp only[List.length_nil]at h3;exact⟨h0.suf (h1.1.trans h2),fun hf=>hf.add (by omega) (by have:=hf.1;simp only;omega)⟩
    · split at h
      · cases hp:parameterM xs.tail with
        |error e=>rw[hp]at h;cases h
        |ok a=>
          obtain⟨l,r'⟩:=a;rw[hp]at h
          cases h
          obtain⟨h2,h3,h4⟩:=parameter_suf hp;have h5:=(enc_length l).2;exact⟨h0.suf h2,fun hf=>hf.add (by omega) (by have:=hf.1;simp only;omega)⟩
      · cases h
        exact⟨h0,fun hf=>hf.lit _ _ (by omega) (by simp only[List.length_singleton];omega)⟩
theorem within_less {br:List Nat→Res Pt} (hb:BraceOk br) {xs ys:List Nat} {ps qs:List Pt} (h:withinM br xs ps= .ok (qs,ys)) (hn:next xs≠34):Less xs ys∧(Fits xs ps→Fits ys qs):=by
  unfold withinM at h;have hx:next xs≠0→xs≠ []:=fun h0 e=>h0 (by rw[e];rfl)
  split at h
  · cases h
  · rename_i h0
    split at h
    · exact escapedWithin_less h
    · split at h
      · exact dollar_less hb h (hx h0)
      · rename_i h1 h2
        cases h
        cases xs with
        |nil=>exact absurd rfl h0
        |cons c r=>
          simp only[next]at hn h0 h1 h2;have ha:acts c=false:=(by simp[acts,hn,h1,h2]);have h3:=left_lt acts c r ha;have h4:=got_length acts (c::r);have h5:=(enc_length (got acts (c::r))).2;exact⟨⟨Suf.left _ _,h3⟩,fun hf=>hf.lit _ _ (by omega) (by omega)⟩
theorem doubleL_less {br:List Nat→Res Pt} (hb:BraceOk br):∀(f:Nat) (xs ys:List Nat) (ps qs:List Pt),doubleL br f xs ps= .ok (qs,ys)→Suf xs ys∧(Fits xs ps→Fits ys qs)
  |0,_,_,_,_,h=>by cases h
  |f+1,xs,ys,ps,qs,h=>by
    rw[doubleL]at h
    split at h
    · rename_i r hs
      cases h
      have h1:=takes_less hs (by decide);have h2:=h1.2;exact⟨h1.1,fun hf=>hf.mono (by omega)⟩
    · rename_i hs
      cases hw:withinM br xs ps with
      |error e=>rw[hw]at h;cases h
      |ok a=>
        obtain⟨ps',xs'⟩:=a;rw[hw]at h;simp only at h
        have hn:next xs≠34:=fun e=>by
          rw[takes_one,if_pos ⟨e,fun e'=>by rw[e']at e;cases e⟩]at hs
          cases hs
        obtain⟨h1,h2⟩:=within_less hb hw hn;obtain⟨h3,h4⟩:=doubleL_less hb f _ _ _ _ h;exact⟨h1.1.trans h3,fun hf=>h4 (h2 hf)⟩
theorem double_less {br:List Nat→Res Pt} (hb:BraceOk br) {xs ys:List Nat} {ps qs:List Pt} (h:doubleM br xs ps= .ok (qs,ys)) (hx:xs≠ []):Less xs ys∧(Fits xs ps→Fits ys qs):=by
  unfold doubleM at h;have h0:=tail_less hx;have h00:=h0.2;obtain⟨h1,h2⟩:=doubleL_less hb _ _ _ _ _ h;refine⟨h0.suf h1,fun hf=>h2 ?_⟩
  split
  · exact hf.lit _ _ (by omega) (by simp only[List.length_nil];omega)
  · exact hf.mono (by omega)
theorem part_less {br:List Nat→Res Pt} (hb:BraceOk br) {deep:Bool} {xs ys:List Nat} {ps qs:List Pt} (h:partM br deep xs ps= .ok (qs,ys)) (hn:next xs≠0) (he:ends (next xs) deep=false):Less xs ys∧(Fits xs ps→Fits ys qs):=by
  unfold partM at h;have hx:xs≠ []:=fun e=>hn (by rw[e];rfl)
  split at h
  · exact escaped_less h
  · split at h
    · exact single_less h hx
    · split at h
      · exact double_less hb h hx
      · split at h
        · exact dollar_less hb h hx
        · rename_i h1 h2 h3 h4
          cases h
          cases xs with
          |nil=>exact absurd rfl hn
          |cons c r=>
            simp only[next]at he h1 h2 h3 h4;have ha:(begins c||ends c deep)=false:=(by simp[begins,acts,h1,h2,h3,h4,he]);have h5:=left_lt (fun r=>begins r||ends r deep) c r ha;have h6:=got_length (fun r=>begins r||ends r deep) (c::r);have h7:=(enc_length (got (fun r=>begins r||ends r deep) (c::r))).2;exact⟨⟨Suf.left _ _,h5⟩,fun hf=>hf.lit _ _ (by omega) (by omega)⟩
theorem partsL_suf {br:List Nat→Res Pt} (hb:BraceOk br) {deep:Bool} :∀(f:Nat) (xs ys:List Nat) (ps qs:List Pt),partsL br deep f xs ps= .ok (qs,ys)→Suf xs ys
  |0,_,_,_,_,h=>by cases h
  |f+1,xs,ys,ps,qs,h=>by
    rw[partsL]at h
    split at h
    · cases h;exact Suf.refl _
    · rename_i hc
      cases hw:partM br deep xs ps with
      |error e=>rw[hw]at h;cases h
      |ok a=>
        obtain⟨ps',xs'⟩:=a;rw[hw]at h;simp only at h
        have h1:=(part_less hb hw (fun e=>hc (.inl e)) (by cases hh:ends (next xs) deep with
          |true=>exact absurd (.inr hh) hc
          |false=>rfl)).1
        exact h1.1.trans (partsL_suf hb f _ _ _ _ h)
theorem parts_ok:∀d,PartsOk (partsM d)
  |0=>fun xs ps ys h=>partsL_suf (braces_ok (f:=fun _=> .error 0) (fun _ _ _ h=>by cases h) true) _ _ _ _ _ h
  |d+1=>fun xs ps ys h=>partsL_suf (braces_ok (parts_ok d) false) _ _ _ _ _ h
end Go.Proofs.YtakceggnadagmaaGreatDoor.LexMath
namespace Go.Proofs.YtakceggnadagmaaGreatDoor
open Go Go.RowKit GlyphMath
theorem ret_bool {a b:Bool} (h:a=b):Ending.returned (.bool a)= .returned (.bool b):=by rw[h]
theorem bool_iff {a b:Bool} (h:a=true↔b=true):a=b:=Bool.eq_iff_iff.2 h
theorem first_any (r:Int) (w:World):
    Calls Tryz.prog 149 #[.int .i32 r] w fun e w'=>e= .returned (.bool (firstR r))∧w=w':=by
  go_enter Tryz.func149,Tryz.ntmps149;go_wp2_with fail
  all_goals
    go_ret;refine⟨ret_bool (bool_iff ?_),rfl⟩;unfold firstR
    first|(simp;done)|(simp;omega)
theorem more_any (r:Int) (w:World):
    Calls Tryz.prog 177 #[.int .i32 r] w fun e w'=>e= .returned (.bool (moreR r))∧w=w':=by
  unfold moreR
  generalize hF:firstR r=F
  have HF:=yH hF;clear hF
  cases F
  all_goals
    go_enter Tryz.func177,Tryz.ntmps177
    go_wp2_with (go_at_call 149;refine(first_any r _).mono ?_;rintro e w1 ⟨rfl,rfl⟩;(try rw[HF.out]))
  all_goals
    go_ret;refine⟨ret_bool (bool_iff ?_),rfl⟩
    first|(simp;done)|(simp;omega)
theorem below_iter (w:World) (s:ByteArray) (p:Nat):Below w.heap.size w (w.iter s p):=(Below.refl _ w).alloc (Nat.le_refl _) _
theorem slprefix_any (s p:ByteArray) (w:World):
    Calls Tryz.prog 95 #[.string s,.string p] w fun e w'=>e= .returned (.bool (Lib.hasPrefix s.data.toList p.data.toList))∧w=w':=by
  rw[←Lib.hasPrefix_raw]
  by_cases h:p.size≤s.size
  · go_enter Tryz.func95,Tryz.ntmps95
    go_wp2_with fail;go_ret;exact⟨ret_bool (by simp[h]),rfl⟩
  · go_enter Tryz.func95,Tryz.ntmps95
    go_wp2_with fail;go_ret;exact⟨ret_bool (by simp[h]),rfl⟩
theorem prefix_any (s p:ByteArray) (w:World):
    Calls Tryz.prog 68 #[.string s,.string p] w fun e w'=>e= .returned (.bool (Lib.hasPrefix s.data.toList p.data.toList))∧w=w':=by
  generalize hB:Lib.hasPrefix s.data.toList p.data.toList=B
  have HB:=yH hB;clear hB;go_enter Tryz.func68,Tryz.ntmps68
  go_wp2_with (go_at_call 95;refine(slprefix_any s p _).mono ?_;rintro e w1 ⟨rfl,rfl⟩;rw[HB.out])
  go_ret;exact⟨rfl,rfl⟩
theorem count_any (s:ByteArray) (w:World) (hs:s.size≤9223372036854775807):
    Calls Tryz.prog 69 #[.string s] w fun e w'=>e= .returned (.int .i64 ((letters s).length:Int))∧Below w.heap.size w w':=by
  go_enter Tryz.func69,Tryz.ntmps69
  go_wp2
  go_loopw [3] (fun n w'=> ∃(pos k:Nat),w'=w.iter s pos∧n= .int .i64 (k:Int)∧k+(rest s pos).length=(letters s).length) (fun _ w'=>s.size-w'.iterPos w.heap.size)
  case atStart=>exact⟨0,0,rfl,rfl,by rw[rest_zero];omega⟩
  case round=>
    obtain⟨pos,k,rfl,rfl,hk⟩:=hrel;have hl:=letters_length s
    by_cases hp:pos<s.size
    · have hnx:∀ty,(Instr.next (.pointer (some ⟨w.heap.size,0,none⟩)) true ty).run Tryz.prog (w.iter s pos)=_:=fun ty=>run_next_any w s pos ty hp
      have hwd:=width_pos s pos hp;rw[rest_step s pos hp,List.length_cons]at hk;have hk1:(k:Int)+1≤9223372036854775807:=(by omega);have HK:=yH hk;clear hk hl
      go_wp2
      go_roundw
      case rel=>exact⟨pos+(Utf8.decode s pos).2,k+1,rfl,by congr 1,by have:=HK.out;omega⟩
      case measure=>simp;omega
    · have hnx:∀ty,(Instr.next (.pointer (some ⟨w.heap.size,0,none⟩)) true ty).run Tryz.prog (w.iter s pos)=_:=fun ty=>run_next_end w s pos ty hp
      rw[rest_end s pos hp,List.length_nil,Nat.add_zero]at hk;subst hk;clear hl
      go_wp2
      go_ret;exact⟨rfl,below_iter w s pos⟩
theorem valid_any (s:ByteArray) (w:World):
    Calls Tryz.prog 39 #[.string s] w fun e w'=>e= .returned (.tuple #[.int .i64 (place s:Int),.bool (isText s)])∧Below w.heap.size w w':=by
  go_enter Tryz.func39,Tryz.ntmps39
  go_wp2
  go_loopw [4] (fun _ w'=> ∃(pos:Nat),w'=w.iter s pos∧badFrom s pos=firstBad s) (fun _ w'=>s.size-w'.iterPos w.heap.size)
  case atStart=>exact⟨0,rfl,rfl⟩
  case round=>
    obtain⟨pos,rfl,hk⟩:=hrel
    by_cases hp:pos<s.size
    · obtain⟨r,d,hd⟩:∃r d,Utf8.decode s pos=(r,d):=⟨_,_,rfl⟩
      have hnx:∀ty,(Instr.next (.pointer (some ⟨w.heap.size,0,none⟩)) true ty).run Tryz.prog (w.iter s pos)= .ok (.tuple #[.bool true,.int .i64 pos,.int .i32 (r:Int)]) (w.iter s (pos+d)):=fun ty=>(by rw[run_next_any w s pos ty hp,hd]);have hwd:=width_pos s pos hp;rw[badFrom_step s pos hp,bad_asked,hd]at hk;rw[hd]at hwd;simp only at hk hwd;clear hd;obtain⟨B,hB⟩:∃B,ownNone s pos=B:=⟨_,rfl⟩;rw[hB]at hk;have HB:=yH (show Lib.hasPrefix (s.extract pos s.size).data.toList (⟨#[239,191,189]⟩:ByteArray).data.toList=B from hB);clear hB
      by_cases b0:r=0
      · subst b0
        have e1:place s=pos:=(by unfold place;rw[←hk];rfl);have e2:isText s=false:=(by unfold isText;rw[←hk];rfl);have E:=yH (And.intro e1 e2);clear hk e1 e2 HB
        go_wp2
        go_ret2
        exact⟨by rw[E.out.1,E.out.2];rfl,below_iter w s _⟩
      · have b0':((r:Int)==0)=false:=by simpa using b0
        have c0:(r==0)=false:=by simpa using b0
        by_cases b1:r=65533
        · subst b1
          cases B with
          |true=>
            have HK:=yH (show badFrom s (pos+d)=firstBad s by rw[←hk];rfl);clear hk b0 c0
            go_wp2_with (go_at_call 68;refine(prefix_any _ _ _).mono ?_;rintro e w1 ⟨rfl,rfl⟩;rw[HB.out])
            go_roundw
            case rel=>exact⟨pos+d,rfl,HK.out⟩
            case measure=>simp;omega
          |false=>
            have e1:place s=pos:=(by unfold place;rw[←hk];rfl);have e2:isText s=false:=(by unfold isText;rw[←hk];rfl);have E:=yH (And.intro e1 e2);clear hk e1 e2 b0 c0
            go_wp2_with (go_at_call 68;refine(prefix_any _ _ _).mono ?_;rintro e w1 ⟨rfl,rfl⟩;rw[HB.out])
            go_ret2
            exact⟨by rw[E.out.1,E.out.2];rfl,below_iter w s _⟩
        · have b1':((r:Int)==65533)=false:=by
            have:¬(r:Int)=65533:=by omega
            simpa using this
          have c1:(r==65533)=false:=(by simpa using b1);have HK:=yH (show badFrom s (pos+d)=firstBad s by rw[←hk,c0,c1];rfl);clear hk b0 c0 b1 c1 HB;go_wp2_with fail
          go_roundw
          case rel=>exact⟨pos+d,rfl,HK.out⟩
          case measure=>simp;omega
    · have hnx:∀ty,(Instr.next (.pointer (some ⟨w.heap.size,0,none⟩)) true ty).run Tryz.prog (w.iter s pos)=_:=fun ty=>run_next_end w s pos ty hp
      rw[badFrom_end s pos hp]at hk;have e1:place s=s.size:=(by unfold place;rw[←hk];rfl);have e2:isText s=true:=(by unfold isText;rw[←hk];rfl);have E:=yH (And.intro e1 e2);clear hk e1 e2
      go_wp2
      go_ret2
      exact⟨by rw[E.out.1,E.out.2];rfl,below_iter w s pos⟩
theorem low_rest (s:ByteArray):∀n i,s.size-i≤n→i≤s.size→(rest s i).all (fun (x:Nat)=>moreR x)=true→(rest s i).length=s.size-i
  |0,i,hn,hi,_=>by rw[rest_end s i (by omega)];simp;omega
  |n+1,i,hn,hi,ha=>by
    by_cases h:i<s.size
    · rw[rest_step s i h,List.all_cons,Bool.and_eq_true]at ha
      have h1:(Utf8.decode s i).1<128:=by
        have:=ha.1;simp only[moreR,firstR,Bool.or_eq_true,decide_eq_true_eq]at this;omega
      have h2:(s[i]'h).toNat<128:=by
        rcases Nat.lt_or_ge (s[i]'h).toNat 128 with k|k
        · exact k
        · have:=(decode_high s i h k).1;omega
      have hd:=decode_ascii s i h h2;rw[hd]at ha;rw[rest_step s i h,hd,List.length_cons,low_rest s n (i+1) (by omega) (by omega) ha.2];omega
    · rw[rest_end s i h];simp;omega
theorem name_few (s:ByteArray) (h0:0<s.size) (h1:s.size≤12):nameL (letters s)=(firstR (Utf8.decode s 0).1&&(letters s).all (fun (x:Nat)=>moreR x)):=by
  have hl:=letters_length s;have e:=rest_step s 0 h0;rw[rest_zero]at e;have e2:nameL (letters s)=(firstR (Utf8.decode s 0).1&&(letters s).all (fun (x:Nat)=>moreR x)&&decide ((letters s).length≤12)):=(by rw[e];rfl);rw[e2,decide_eq_true (by omega),Bool.and_true]
theorem name_long (s:ByteArray) (h:12<s.size):nameL (letters s)=false:=by
  have e:=rest_step s 0 (by omega);rw[rest_zero]at e;have e2:nameL (letters s)=(firstR (Utf8.decode s 0).1&&(letters s).all (fun (x:Nat)=>moreR x)&&decide ((letters s).length≤12)):=(by rw[e];rfl)
  cases ha:(letters s).all (fun (x:Nat)=>moreR x)with
  |false=>rw[e2,ha];simp
  |true=>
    have:=low_rest s s.size 0 (by omega) (by omega) (by rw[rest_zero];exact ha);rw[rest_zero]at this;rw[e2,decide_eq_false (by omega)];simp
theorem nonempty (s:ByteArray) (h:0<s.size):s.toList.isEmpty=false:=by
  rw[Lib.toList_data];rw[Lib.size_eq]at h
  match hl:s.data.toList with
  | []=>rw[hl]at h;simp at h
  |_::_=>rfl
theorem name_none (w:World):
    Calls Tryz.prog 178 #[.string ⟨#[]⟩] w fun e w'=>e= .returned (.bool false)∧Below w.heap.size w w':=by
  go_enter Tryz.func178,Tryz.ntmps178;go_wp2_with fail;go_ret;exact⟨rfl,Below.refl _ _⟩
theorem name_many (s:ByteArray) (w:World) (h:12<s.size):
    Calls Tryz.prog 178 #[.string s] w fun e w'=>e= .returned (.bool false)∧Below w.heap.size w w':=by
  have hE:=nonempty s (by omega);have hL:(12:Int)<s.size:=(by omega);clear h;go_enter Tryz.func178,Tryz.ntmps178;go_wp2_with fail;go_ret;exact⟨rfl,Below.refl _ _⟩
theorem name_in (s:ByteArray) (Q:Bool) (w:World) (h0:0<s.size) (h1:s.size≤12) (hQ:Q=(firstR (Utf8.decode s 0).1&&(letters s).all (fun (x:Nat)=>moreR x))):
    Calls Tryz.prog 178 #[.string s] w fun e w'=>e= .returned (.bool Q)∧Below w.heap.size w w':=by
  have hE:=nonempty s h0;have hL:(s.size:Int)≤12:=(by omega);have HQ:=yH hQ;clear hQ h1;go_enter Tryz.func178,Tryz.ntmps178
  go_wp2
  go_loopw [3] (fun _ w'=> ∃(pos:Nat),w'=w.iter s pos∧(pos=0∨0<pos∧Q=(rest s pos).all (fun (x:Nat)=>moreR x))) (fun _ w'=>s.size-w'.iterPos w.heap.size)
  case atStart=>exact⟨0,rfl,.inl rfl⟩
  case round=>
    obtain⟨pos,rfl,hk⟩:=hrel
    by_cases hp:pos<s.size
    · obtain⟨r,d,hd⟩:∃r d,Utf8.decode s pos=(r,d):=⟨_,_,rfl⟩
      have hnx:∀ty,(Instr.next (.pointer (some ⟨w.heap.size,0,none⟩)) true ty).run Tryz.prog (w.iter s pos)= .ok (.tuple #[.bool true,.int .i64 pos,.int .i32 (r:Int)]) (w.iter s (pos+d)):=fun ty=>(by rw[run_next_any w s pos ty hp,hd]);have hwd:=width_pos s pos hp;have hst:=rest_step s pos hp;rw[hd]at hst hwd;simp only at hst hwd;obtain⟨F,hF⟩:∃F,firstR (r:Int)=F:=⟨_,rfl⟩;obtain⟨M,hM⟩:∃M,moreR (r:Int)=M:=⟨_,rfl⟩;have HF:=yH hF;have HM:=yH hM
      rcases hk with rfl|⟨hpos,hk⟩
      · have hq:=HQ.out
        rw[hd,←rest_zero,hst,List.all_cons,hM,hF]at hq;have HK:=yH hq;clear hF hM hst hq hd hE hL
        cases F<;>cases M
        all_goals
          go_wp2_with (first|(go_at_call 149;refine(first_any _ _).mono ?_;rintro e w1 ⟨rfl,rfl⟩;rw[HF.out])|(go_at_call 177;refine(more_any _ _).mono ?_;rintro e w1 ⟨rfl,rfl⟩;rw[HM.out]))
        · go_ret
          exact⟨ret_bool (by rw[HK.out];rfl),below_iter w s _⟩
        · go_ret
          exact⟨ret_bool (by rw[HK.out];rfl),below_iter w s _⟩
        · go_ret
          exact⟨ret_bool (by rw[HK.out];rfl),below_iter w s _⟩
        · go_roundw
          case rel=>exact⟨_,rfl,.inr ⟨by omega,by rw[HK.out];simp⟩⟩
          case measure=>simp;omega
      · rw[hst,List.all_cons,hM]at hk
        have HK:=yH hk
        have hi:((pos:Int)==0)=false:=by
          have:¬(pos:Int)=0:=by omega
          simpa using this
        clear hF hM hst hk hd hE hL hpos HQ HF
        cases M
        all_goals
          go_wp2_with (first|(go_at_call 177;refine(more_any _ _).mono ?_;rintro e w1 ⟨rfl,rfl⟩;rw[HM.out]))
        · go_ret
          exact⟨ret_bool (by rw[HK.out];rfl),below_iter w s _⟩
        · go_roundw
          case rel=>exact⟨pos+d,rfl,.inr ⟨by omega,by rw[HK.out];simp⟩⟩
          case measure=>simp;omega
    · have hnx:∀ty,(Instr.next (.pointer (some ⟨w.heap.size,0,none⟩)) true ty).run Tryz.prog (w.iter s pos)=_:=fun ty=>run_next_end w s pos ty hp
      rcases hk with k0|⟨hpos,hk⟩
      · exact absurd (by rw[k0];exact h0) hp
      rw[rest_end s pos hp]at hk;obtain rfl:Q=true:=hk;clear HQ hE hL
      go_wp2
      go_ret;exact⟨rfl,below_iter w s pos⟩
theorem name_any (s:ByteArray) (w:World):
    Calls Tryz.prog 178 #[.string s] w fun e w'=>e= .returned (.bool (nameL (letters s)))∧Below w.heap.size w w':=by
  by_cases h0:0<s.size
  · by_cases h1:s.size≤12
    · exact name_in s _ w h0 h1 (name_few s h0 h1)
    · rw[name_long s (by omega)];exact name_many s w (by omega)
  · obtain rfl:s=⟨#[]⟩:=by
      apply ByteArray.ext;apply Array.eq_empty_of_size_eq_zero;have:s.size=s.data.size:=rfl;omega
    exact name_none w
theorem blank_any (r:Int) (w:World):
    Calls Tryz.prog 120 #[.int .i32 r] w fun e w'=>e= .returned (.bool (blankR r))∧w=w':=by
  go_enter Tryz.func120,Tryz.ntmps120;go_wp2_with fail
  all_goals
    go_ret;refine⟨ret_bool (bool_iff ?_),rfl⟩;unfold blankR
    first|(simp;done)|(simp;omega)
end Go.Proofs.YtakceggnadagmaaGreatDoor
namespace Go.Proofs
open Go.Shelf
def Tryz.lays169_ren:Go.Shelf.Ren:=⟨fun|169=>98|n=>n,fun|70=>141|9=>9|0=>0|72=>144|37=>142|127=>163|3=>3|5=>5|n=>n,fun|n=>n⟩
theorem Tryz.lays169:Go.Proofs.Lays.n169 Tryz.prog Tryz.lays169_ren:= {
  mixed:=by kernel_rfl
  f169:=Tryz.func98.trans (congrArg some (by kernel_rfl))
  t0:=Tryz.underlying0
  a0:=Tryz.isAgg0
  z0:=Tryz.sizeOf0
  v0:=Tryz.zeroValue0
  t3:=Tryz.underlying3
  a3:=Tryz.isAgg3
  z3:=Tryz.sizeOf3
  v3:=Tryz.zeroValue3
  t9:=Tryz.underlying9
  a9:=Tryz.isAgg9
  z9:=Tryz.sizeOf9
  v9:=Tryz.zeroValue9
  t37:=Tryz.underlying142
  a37:=Tryz.isAgg142
  z37:=Tryz.sizeOf142
  v37:=Tryz.zeroValue142
  t70:=Tryz.underlying141
  a70:=Tryz.isAgg141
  z70:=Tryz.sizeOf141
  v70:=Tryz.zeroValue141
  t72:=Tryz.underlying144
  a72:=Tryz.isAgg144
  z72:=Tryz.sizeOf144
  v72:=Tryz.zeroValue144
  t127:=Tryz.underlying163
  a127:=Tryz.isAgg163
  z127:=Tryz.sizeOf163
  v127:=Tryz.zeroValue163 }
theorem Tryz.Builder_Extra_169:Builder.Extra Tryz.prog Tryz.lays169_ren:= {
  sizeBuilder:=by kernel_rfl
  liesBuilder:=by kernel_rfl
  t5:=Tryz.underlying5
  a5:=Tryz.isAgg5
  z5:=Tryz.sizeOf5
  v5:=Tryz.zeroValue5
  infoByte:=by kernel_rfl
  cellsByte:=by kernel_rfl
  sizeByte:=by kernel_rfl
  neB5:=by decide }
def Tryz.lays119_ren:Go.Shelf.Ren:=⟨fun|119=>170|n=>n,fun|21=>21|4=>4|n=>n,fun|n=>n⟩
theorem Tryz.lays119:Go.Proofs.Lays.n119 Tryz.prog Tryz.lays119_ren:= {
  mixed:=by kernel_rfl
  f119:=Tryz.func170.trans (congrArg some (by kernel_rfl))
  t4:=Tryz.underlying4
  a4:=Tryz.isAgg4
  z4:=Tryz.sizeOf4
  v4:=Tryz.zeroValue4
  t21:=Tryz.underlying21
  a21:=Tryz.isAgg21
  z21:=Tryz.sizeOf21
  v21:=Tryz.zeroValue21 }
theorem Tryz.utf8_ValidRune (r:Int) (w:World):
    Calls Tryz.prog 170 #[.int .i32 r] w fun e w'=>e= .returned (.bool (Lib.validRune r))∧w'=w:=Any.utf8_ValidRune Tryz.lays119 r w
def Tryz.lays137_ren:Go.Shelf.Ren:=⟨fun|137=>169|217=>193|266=>198|n=>n,fun|9=>9|5=>5|3=>3|n=>n,fun|n=>n⟩
theorem Tryz.lays137:Go.Proofs.Lays.n137 Tryz.prog Tryz.lays137_ren:= {
  mixed:=by kernel_rfl
  f137:=Tryz.func169.trans (congrArg some (by kernel_rfl))
  f217:=Tryz.func193.trans (congrArg some (by kernel_rfl))
  f266:=Tryz.func198.trans (congrArg some (by kernel_rfl))
  t3:=Tryz.underlying3
  a3:=Tryz.isAgg3
  z3:=Tryz.sizeOf3
  v3:=Tryz.zeroValue3
  t5:=Tryz.underlying5
  a5:=Tryz.isAgg5
  z5:=Tryz.sizeOf5
  v5:=Tryz.zeroValue5
  t9:=Tryz.underlying9
  a9:=Tryz.isAgg9
  z9:=Tryz.sizeOf9
  v9:=Tryz.zeroValue9 }
open Go.RowKit in
theorem Tryz.strings_IndexByte (s:ByteArray) (c:Int) (w:World):
    Calls Tryz.prog 169 #[.string s,.int .u8 c] w fun e w'=>e= .returned (.int .i64 (Lib.indexByte s.data.toList c.toNat.toUInt8))∧w'=w:=Any.strings_IndexByte Tryz.lays137 s c w
open Go.RowKit in
theorem Tryz.Builder_String_any_k (B b:Nat) (l:List UInt8) (w:World) (h:Lib.IsBuilderF 144 5 B b (Lib.byteCells l) w) (hBw:B≤w.heap.size):
    Calls Tryz.prog 98 #[.pointer (some ⟨b,0,none⟩)] w fun e w'=>e= .returned (.string ⟨l.toArray⟩)∧(Lib.IsBuilderF 144 5 B b (Lib.byteCells l) w'∧Below B w w'∧Lib.OthersKept 5 (some b) w w'):=Any.Builder_String_any_k Tryz.lays169 Tryz.Builder_Extra_169 B b l w h hBw
def Tryz.lays242_ren:Go.Shelf.Ren:=⟨fun|242=>119|278=>143|n=>n,fun|37=>142|21=>21|51=>182|4=>4|5=>5|46=>169|n=>n,fun|n=>n⟩
theorem Tryz.lays242:Go.Proofs.Lays.n242 Tryz.prog Tryz.lays242_ren:= {
  mixed:=by kernel_rfl
  f242:=Tryz.func119.trans (congrArg some (by kernel_rfl))
  f278:=Tryz.func143.trans (congrArg some (by kernel_rfl))
  t4:=Tryz.underlying4
  a4:=Tryz.isAgg4
  z4:=Tryz.sizeOf4
  v4:=Tryz.zeroValue4
  t5:=Tryz.underlying5
  a5:=Tryz.isAgg5
  z5:=Tryz.sizeOf5
  v5:=Tryz.zeroValue5
  t21:=Tryz.underlying21
  a21:=Tryz.isAgg21
  z21:=Tryz.sizeOf21
  v21:=Tryz.zeroValue21
  t37:=Tryz.underlying142
  a37:=Tryz.isAgg142
  z37:=Tryz.sizeOf142
  v37:=Tryz.zeroValue142
  t46:=Tryz.underlying169
  a46:=Tryz.isAgg169
  z46:=Tryz.sizeOf169
  v46:=Tryz.zeroValue169
  t51:=Tryz.underlying182
  a51:=Tryz.isAgg182
  z51:=Tryz.sizeOf182
  v51:=Tryz.zeroValue182 }
open Go.RowKit in
theorem Tryz.utf8_AppendRune_row (B:Nat) (v:Value) (n:Nat) (xs:List Value) (r:Int) (hr0: -2147483648≤r) (hr1:r≤2147483647) (w:World) (hown:w.ownsRowF B 5 1 v n xs) (hlen:n+4≤140737488355328) (hBw:B≤w.heap.size):
    Calls Tryz.prog 119 #[v,.int .i32 r] w fun e w'=> ∃v',e= .returned v'∧w'.ownsRowF B 5 1 v' (n+(Lib.runeCells r).length) (xs++Lib.runeCells r)∧∃o,(w.alloc o).grownBy w' v.ownBlock:=Any.utf8_AppendRune_row Tryz.lays242 (by kernel_rfl) B v n xs r hr0 hr1 w hown hlen hBw
def Tryz.lays219_ren:Go.Shelf.Ren:=⟨fun|219=>201|217=>193|225=>172|224=>171|267=>202|266=>198|314=>203|n=>n,fun|9=>9|3=>3|4=>4|5=>5|46=>169|146=>206|51=>182|n=>n,fun|1=>3|n=>n⟩
theorem Tryz.lays219:Go.Proofs.Lays.n219 Tryz.prog Tryz.lays219_ren:= {
  mixed:=by kernel_rfl
  f217:=Tryz.func193.trans (congrArg some (by kernel_rfl))
  f219:=Tryz.func201.trans (congrArg some (by kernel_rfl))
  f224:=Tryz.func171.trans (congrArg some (by kernel_rfl))
  f225:=Tryz.func172.trans (congrArg some (by kernel_rfl))
  f266:=Tryz.func198.trans (congrArg some (by kernel_rfl))
  f267:=Tryz.func202.trans (congrArg some (by kernel_rfl))
  f314:=Tryz.func203.trans (congrArg some (by kernel_rfl))
  t3:=Tryz.underlying3
  a3:=Tryz.isAgg3
  z3:=Tryz.sizeOf3
  v3:=Tryz.zeroValue3
  t4:=Tryz.underlying4
  a4:=Tryz.isAgg4
  z4:=Tryz.sizeOf4
  v4:=Tryz.zeroValue4
  t5:=Tryz.underlying5
  a5:=Tryz.isAgg5
  z5:=Tryz.sizeOf5
  v5:=Tryz.zeroValue5
  t9:=Tryz.underlying9
  a9:=Tryz.isAgg9
  z9:=Tryz.sizeOf9
  v9:=Tryz.zeroValue9
  t46:=Tryz.underlying169
  a46:=Tryz.isAgg169
  z46:=Tryz.sizeOf169
  v46:=Tryz.zeroValue169
  t51:=Tryz.underlying182
  a51:=Tryz.isAgg182
  z51:=Tryz.sizeOf182
  v51:=Tryz.zeroValue182
  t146:=Tryz.underlying206
  a146:=Tryz.isAgg206
  z146:=Tryz.sizeOf206
  v146:=Tryz.zeroValue206
  g1:=by kernel_rfl }
open Go.RowKit Go.Lib in
theorem Tryz.stringslite_Index_one (s:ByteArray) (c:UInt8) (w:World):
    Calls Tryz.prog 201 #[.string s,.string ⟨#[c]⟩] w fun e w'=>e= .returned (.int .i64 (Lib.indexByte s.data.toList c))∧w'=w:=Any.stringslite_Index_one Tryz.lays219 s c w
open Go.RowKit Go.Lib in
def Tryz.lays151_ren:Go.Shelf.Ren:=⟨fun|151=>121|152=>144|137=>169|119=>170|224=>171|225=>172|217=>193|266=>198|n=>n,fun|9=>9|21=>21|4=>4|3=>3|5=>5|0=>0|46=>169|n=>n,fun|n=>n⟩
theorem Tryz.lays151:Go.Proofs.Lays.n151 Tryz.prog Tryz.lays151_ren:= {
  mixed:=by kernel_rfl
  f119:=Tryz.func170.trans (congrArg some (by kernel_rfl))
  f137:=Tryz.func169.trans (congrArg some (by kernel_rfl))
  f151:=Tryz.func121.trans (congrArg some (by kernel_rfl))
  f152:=Tryz.func144.trans (congrArg some (by kernel_rfl))
  f217:=Tryz.func193.trans (congrArg some (by kernel_rfl))
  f224:=Tryz.func171.trans (congrArg some (by kernel_rfl))
  f225:=Tryz.func172.trans (congrArg some (by kernel_rfl))
  f266:=Tryz.func198.trans (congrArg some (by kernel_rfl))
  t0:=Tryz.underlying0
  a0:=Tryz.isAgg0
  z0:=Tryz.sizeOf0
  v0:=Tryz.zeroValue0
  t3:=Tryz.underlying3
  a3:=Tryz.isAgg3
  z3:=Tryz.sizeOf3
  v3:=Tryz.zeroValue3
  t4:=Tryz.underlying4
  a4:=Tryz.isAgg4
  z4:=Tryz.sizeOf4
  v4:=Tryz.zeroValue4
  t5:=Tryz.underlying5
  a5:=Tryz.isAgg5
  z5:=Tryz.sizeOf5
  v5:=Tryz.zeroValue5
  t9:=Tryz.underlying9
  a9:=Tryz.isAgg9
  z9:=Tryz.sizeOf9
  v9:=Tryz.zeroValue9
  t21:=Tryz.underlying21
  a21:=Tryz.isAgg21
  z21:=Tryz.sizeOf21
  v21:=Tryz.zeroValue21
  t46:=Tryz.underlying169
  a46:=Tryz.isAgg169
  z46:=Tryz.sizeOf169
  v46:=Tryz.zeroValue169 }
open Go.RowKit Go.Lib in
theorem Tryz.strings_ContainsRune_ascii (s:ByteArray) (r:Int) (w:World) (h0:0≤r) (h1:r<128):
    Calls Tryz.prog 121 #[.string s,.int .i32 r] w fun e w'=>e= .returned (.bool (decide (0≤Lib.indexByte s.data.toList r.toNat.toUInt8)))∧w'=w:=Any.strings_ContainsRune_ascii Tryz.lays151 s r w h0 h1
def Tryz.lays197_ren:Go.Shelf.Ren:=⟨fun|197=>81|260=>107|n=>n,fun|9=>9|21=>21|3=>3|4=>4|5=>5|105=>129|119=>168|0=>0|46=>169|139=>172|138=>171|n=>n,fun|3=>1|4=>2|n=>n⟩
theorem Tryz.lays197:Go.Proofs.Lays.n197 Tryz.prog Tryz.lays197_ren:= {
  mixed:=by kernel_rfl
  f197:=Tryz.func81.trans (congrArg some (by kernel_rfl))
  f260:=Tryz.func107.trans (congrArg some (by kernel_rfl))
  t0:=Tryz.underlying0
  a0:=Tryz.isAgg0
  z0:=Tryz.sizeOf0
  v0:=Tryz.zeroValue0
  t3:=Tryz.underlying3
  a3:=Tryz.isAgg3
  z3:=Tryz.sizeOf3
  v3:=Tryz.zeroValue3
  t4:=Tryz.underlying4
  a4:=Tryz.isAgg4
  z4:=Tryz.sizeOf4
  v4:=Tryz.zeroValue4
  t5:=Tryz.underlying5
  a5:=Tryz.isAgg5
  z5:=Tryz.sizeOf5
  v5:=Tryz.zeroValue5
  t9:=Tryz.underlying9
  a9:=Tryz.isAgg9
  z9:=Tryz.sizeOf9
  v9:=Tryz.zeroValue9
  t21:=Tryz.underlying21
  a21:=Tryz.isAgg21
  z21:=Tryz.sizeOf21
  v21:=Tryz.zeroValue21
  t46:=Tryz.underlying169
  a46:=Tryz.isAgg169
  z46:=Tryz.sizeOf169
  v46:=Tryz.zeroValue169
  t105:=Tryz.underlying129
  a105:=Tryz.isAgg129
  z105:=Tryz.sizeOf129
  v105:=Tryz.zeroValue129
  t119:=Tryz.underlying168
  a119:=Tryz.isAgg168
  z119:=Tryz.sizeOf168
  t138:=Tryz.underlying171
  a138:=Tryz.isAgg171
  z138:=Tryz.sizeOf171
  v138:=Tryz.zeroValue171
  t139:=Tryz.underlying172
  a139:=Tryz.isAgg172
  z139:=Tryz.sizeOf172
  v139:=Tryz.zeroValue172
  g3:=by kernel_rfl
  g4:=by kernel_rfl }
open Go.RowKit Go.Lib in
theorem Tryz.utf8_DecodeRuneInString (s:ByteArray) (w:World) (hT:Lib.Utf8Tabs 1 2 w):
    Calls Tryz.prog 81 #[.string s] w fun e w'=>e= .returned (.tuple #[.int .i32 (Lib.decodeGo s).1,.int .i64 (Lib.decodeGo s).2])∧Below w.heap.size w w':=Any.utf8_DecodeRuneInString Tryz.lays197 s w hT
end Go.Proofs
