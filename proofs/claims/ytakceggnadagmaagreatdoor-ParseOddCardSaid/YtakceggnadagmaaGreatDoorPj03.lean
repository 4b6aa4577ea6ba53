/-
  Proved: texts joined: Proved: how many nodes a parser makes of so many tokens. Conditions: good tokens.
  Proved: of the lexer by letters: what it leaves is an end of what there was, shorter where it took something; what it makes is short. Conditions: as each says.
  Proved: contracts of the functions on one letter (First, More). Conditions: none.
-/
import Derived.Test.YtakceggnadagmaaGreatDoorPj02
import Derived.Test.YtakceggnadagmaaGreatDoorPj01
import Derived.Test.YtakceggnadagmaaGreatDoorRows
import Derived.Test.YtakceggnadagmaaGreatDoorGlyphMath
import Derived.Lib.Hide
import Derived.WalkKit
import Derived.IntWalk
namespace Go.Proofs.YtakceggnadagmaaGreatDoor.ParseMath
open Go Go.Lib GlyphMath LexMath TreeMath

mutual
def sizeT : Tr → Nat
  | .mk _ kids => 1 + sizeL kids
def sizeL : List Tr → Nat
  | [] => 0
  | t :: r => sizeT t + sizeL r
end
mutual
theorem laidM_length : ∀ (t : Tr) (l : List Nd), (laidM t l).length = l.length + sizeT t
  | .mk n kids, l => by
    rw [laidM, laidL_length l.length kids, sizeT]
    simp only [List.length_append, List.length_singleton]
    omega
theorem laidL_length : ∀ (a : Nat) (ts : List Tr) (l : List Nd), (laidL a ts l).length = l.length + sizeL ts
  | a, [], l => by rw [laidL, sizeL, Nat.add_zero]
  | a, t :: r, l => by
    rw [laidL, laidL_length a r, laidM_length t, List.length_modify, sizeL]
    omega
end
theorem sizeL_append (l r : List Tr) : sizeL (l ++ r) = sizeL l + sizeL r := by
  induction l with
  | nil => simp [sizeL]
  | cons a l ih => rw [List.cons_append, sizeL, sizeL, ih, Nat.add_assoc]
theorem sizeL_one (t : Tr) : sizeL [t] = sizeT t := by simp [sizeL]
theorem sizeL_push (l : List Tr) (t : Tr) : sizeL (l ++ [t]) = sizeL l + sizeT t := by rw [sizeL_append, sizeL_one]
theorem sizeT_of (op : List UInt8) (l : List Tr) : sizeT (trOf op l) = 1 + sizeL l := by rw [trOf, sizeT]
theorem sizeT_leaf (n : Nd) : sizeT (.mk n []) = 1 := by simp [sizeT, sizeL]
theorem sizeT_node (n m : Nd) (l : List Tr) : sizeT (.mk n l) = sizeT (.mk m l) := by rw [sizeT, sizeT]
theorem sizeT_kids (t : Tr) (n : Nd) : sizeT (.mk n t.kids) = sizeT t := by
  cases t
  exact sizeT_node _ _ _
theorem size_several {op : List UInt8} : ∀ {l : List Tr}, 1 ≤ l.length → sizeT (several op l) + 1 ≤ sizeL l + l.length
  | [], h => absurd h (by decide)
  | [t], _ => by simp [several, sizeL]
  | a :: b :: r, _ => by
    rw [several, sizeT_of]
    · simp only [List.length_cons]; omega
    · simp
/-- So many nodes of so many tokens. -/
def SzAt (S : PS) (r : Tr × PS) : Prop := sizeT r.1 + 4 * r.2.ts.length ≤ 4 * S.ts.length + 1
def DoSz (cmd : Do) : Prop := ∀ S, GoodS S → SzAt S (cmd S)
def BrSz (br : Do) : Prop := ∀ S, GoodS S → S.hd.kind ≠ 3 → SzAt S (br S)
section
variable {cmd : Do} (hc : DoOk cmd) (hs : DoSz cmd)
include hc hs
theorem sz_pipeL : ∀ (f : Nat) (l : List Tr) {S : PS}, GoodS S → l.length ≤ (pipeL cmd f l S).1.length ∧ sizeL (pipeL cmd f l S).1 + (pipeL cmd f l S).1.length + 4 * (pipeL cmd f l S).2.ts.length ≤ sizeL l + l.length + 4 * S.ts.length
  | 0, _, _, _ => ⟨Nat.le_refl _, Nat.le_refl _⟩
  | f + 1, l, S, h => by
    unfold pipeL
    split
    · rename_i hi
      have h1 := (to_take h).trans (to_lines (to_take h).good)
      have h2 := h1.trans (hc _ h1.good)
      have hx := sz_pipeL f (l ++ [(cmd S.take.lines).1]) h2.good
      have hb := hs _ h1.good
      have ht := take_lt h (is_ne h (by decide) hi)
      have hl := (to_lines (to_take h).good).len
      simp only [SzAt, sizeL_push, List.length_append, List.length_singleton] at hx hb ⊢
      omega
    · exact ⟨Nat.le_refl _, Nat.le_refl _⟩
theorem sz_pipe : DoSz (pipeM cmd) := fun S h => by
  unfold pipeM
  have h1 := to_takes h [33]
  have h2 := hc _ h1.good
  have hx := sz_pipeL hc hs (cmd (S.takes [33]).2).2.ts.length [(cmd (S.takes [33]).2).1] h2.good
  have hb := hs _ h1.good
  have hv := size_several (op := [112, 105, 112, 101]) (l := (pipeL cmd (cmd (S.takes [33]).2).2.ts.length [(cmd (S.takes [33]).2).1] (cmd (S.takes [33]).2).2).1) (by have := hx.1; simpa using this)
  simp only [SzAt, sizeL_one, List.length_singleton] at hx hb ⊢
  cases hi : S.is [33] with
  | true =>
    have ht := take_lt h (is_ne h (by decide) hi)
    have e1 : (S.takes [33]).1 = true := by unfold PS.takes; rw [hi]; rfl
    have e2 : (S.takes [33]).2 = S.take := by unfold PS.takes; rw [hi]; rfl
    rw [e2] at hx hb hv
    rw [e1, e2]
    simp only [if_true, sizeT_of, sizeL_one]
    omega
  | false =>
    have e1 : (S.takes [33]).1 = false := by unfold PS.takes; rw [hi]; rfl
    have e2 : (S.takes [33]).2 = S := by unfold PS.takes; rw [hi]; rfl
    rw [e2] at hx hb hv
    rw [e1, e2]
    simp only [Bool.false_eq_true, if_false]
    omega
theorem sz_andorL : ∀ (f : Nat) (n : Tr) {S : PS}, GoodS S → sizeT (andorL cmd f n S).1 + 4 * (andorL cmd f n S).2.ts.length ≤ sizeT n + 4 * S.ts.length
  | 0, _, _, _ => Nat.le_refl _
  | f + 1, n, S, h => by
    have h1 := (to_take h).trans (to_lines (to_take h).good)
    have h2 := h1.trans (to_pipe hc _ h1.good)
    have hb := sz_pipe hc hs _ h1.good
    have hl := (to_lines (to_take h).good).len
    unfold andorL
    split
    · rename_i hi
      have ht := take_lt h (is_ne h (by decide) hi)
      have hx := sz_andorL f (trOf [97, 110, 100] [n, (pipeM cmd S.take.lines).1]) h2.good
      simp only [SzAt, sizeT_of, sizeL] at hx hb ⊢
      omega
    · split
      · rename_i hi
        have ht := take_lt h (is_ne h (by decide) hi)
        have hx := sz_andorL f (trOf [111, 114] [n, (pipeM cmd S.take.lines).1]) h2.good
        simp only [SzAt, sizeT_of, sizeL] at hx hb ⊢
        omega
      · exact Nat.le_refl _
theorem sz_andor : DoSz (andorM cmd) := fun S h => by
  have h1 := sz_pipe hc hs S h
  have h2 := sz_andorL hc hs (pipeM cmd S).2.ts.length (pipeM cmd S).1 (to_pipe hc S h).good
  unfold SzAt andorM at *
  omega
theorem sz_listL : ∀ (f : Nat) (l : List Tr) {S : PS}, GoodS S → l.length ≤ (listL cmd f l S).1.length ∧ sizeL (listL cmd f l S).1 + (listL cmd f l S).1.length + 4 * (listL cmd f l S).2.ts.length ≤ sizeL l + l.length + 4 * S.ts.length
  | 0, _, _, _ => ⟨Nat.le_refl _, Nat.le_refl _⟩
  | f + 1, l, S, h => by
    have h2 := (to_sep h).trans (to_andor hc _ (to_sep h).good)
    have hb := sz_andor hc hs _ (to_sep h).good
    have hl := (to_sep h).len
    unfold listL
    split
    · rename_i hi
      rw [Bool.and_eq_true] at hi
      have ht := sep_lt h hi.1
      have hx := sz_listL f (l ++ [(andorM cmd S.sep.2).1]) h2.good
      simp only [SzAt, sizeL_push, List.length_append, List.length_singleton] at hx hb ⊢
      omega
    · dsimp only
      omega
theorem sz_list : DoSz (listM cmd) := fun S h => by
  unfold listM
  have h1 := (to_lines h).trans (to_andor hc _ (to_lines h).good)
  have hb := sz_andor hc hs _ (to_lines h).good
  have hl := (to_lines h).len
  have hx := sz_listL hc hs (andorM cmd S.lines).2.ts.length [(andorM cmd S.lines).1] h1.good
  have hv := size_several (op := [115, 101, 113]) (l := (listL cmd (andorM cmd S.lines).2.ts.length [(andorM cmd S.lines).1] (andorM cmd S.lines).2).1) (by have := hx.1; simpa using this)
  simp only [SzAt, sizeL_one, List.length_singleton] at hx hb hv ⊢
  omega
theorem sz_enclosed (op cl : List UInt8) {S : PS} (h : GoodS S) (hk : S.hd.kind ≠ 3) : SzAt S (enclosedM cmd op cl S) := by
  have h1 := to_take h
  have h2 := to_list hc _ h1.good
  have hb := sz_list hc hs _ h1.good
  have hn := (to_need h2.good cl).len
  have ht := take_lt h hk
  unfold SzAt enclosedM at *
  simp only [sizeT_of, sizeL_one]
  omega
theorem sz_body : DoSz (bodyM cmd) := fun S h => by
  have h1 := to_need h [100, 111]
  have h2 := to_list hc _ h1.good
  have hb := sz_list hc hs _ h1.good
  have hn := (to_need h2.good [100, 111, 110, 101]).len
  have hl := h1.len
  unfold SzAt bodyM at *
  dsimp only
  omega
theorem sz_loop (op : List UInt8) {S : PS} (h : GoodS S) (hk : S.hd.kind ≠ 3) : SzAt S (loopM cmd op S) := by
  have h1 := to_take h
  have h2 := to_list hc _ h1.good
  have hb := sz_list hc hs _ h1.good
  have hn := sz_body hc hs _ h2.good
  have ht := take_lt h hk
  unfold SzAt loopM at *
  simp only [sizeT_of, sizeL]
  omega
theorem sz_branch {br : Do} (hb : BrSz br) : BrSz (branchM cmd br) := fun S h hk => by
  have h1 := to_take h
  have s1 := sz_list hc hs _ h1.good
  have h2 := to_list hc _ h1.good
  have h3 := to_need h2.good [116, 104, 101, 110]
  have s3 := sz_list hc hs _ h3.good
  have h4 := to_list hc _ h3.good
  have l3 := h3.len
  have ht := take_lt h hk
  unfold SzAt branchM at *
  dsimp only
  split
  · rename_i hi
    have s5 := hb _ h4.good (is_ne h4.good (by decide) hi)
    unfold SzAt at s5
    simp only [sizeT_of, sizeL]
    omega
  · split
    · rename_i hi
      have h5 := to_take h4.good
      have s5 := sz_list hc hs _ h5.good
      have h6 := to_list hc _ h5.good
      have l6 := (to_need h6.good [102, 105]).len
      have l5 := h5.len
      unfold SzAt at s5
      simp only [sizeT_of, sizeL]
      omega
    · have l6 := (to_need h4.good [102, 105]).len
      simp only [sizeT_of, sizeL]
      omega
theorem sz_each {S : PS} (h : GoodS S) (hk : S.hd.kind ≠ 3) : SzAt S (eachM cmd S) := by
  have h1 := to_take h
  have h2 := to_name h1.good
  have h3 := to_need h2.good [105, 110]
  have h4 := to_wordsL ((S.take.name.2.need [105, 110]).ts.length) [] h3.good
  have h5 := to_sep h4.good
  have hn := sz_body hc hs _ h5.good
  have ht := take_lt h hk
  have := h2.len
  have := h3.len
  have := h4.len
  have := h5.len
  unfold SzAt eachM at *
  simp only [sizeT, sizeL_one]
  omega
theorem sz_choiceL : ∀ (f : Nat) (ps : List (List (List Pt))) (l : List Tr) {S : PS}, GoodS S → sizeL (choiceL cmd f ps l S).kids + 4 * (choiceL cmd f ps l S).st.ts.length ≤ sizeL l + 4 * S.ts.length
  | 0, _, _, _, _ => Nat.le_refl _
  | f + 1, ps, l, S, h => by
    unfold choiceL
    split
    · exact Nat.le_refl _
    · rename_i hi
      have hk : S.hd.kind ≠ 3 := fun e => hi (by rw [e]; simp)
      have hx := sz_choiceL f (ps ++ [(patsM S).1]) (l ++ [(listM cmd (patsM S).2).1]) (to_choiceR hc h).good
      have hp := pats_lt h hk
      have h1 := to_pats h
      have h2 := to_list hc _ h1.good
      have hb := sz_list hc hs _ h1.good
      have h3 := to_need h2.good [59, 59]
      have h4 := to_lines h3.good
      have := h3.len
      have := h4.len
      simp only [SzAt, sizeL_push] at hx hb ⊢
      omega
theorem sz_choice {S : PS} (h : GoodS S) (hk : S.hd.kind ≠ 3) : SzAt S (choiceM cmd S) := by
  have h1 := to_take h
  have h2 := to_word h1.good
  have h3 := to_need h2.good [105, 110]
  have h4 := to_lines h3.good
  have h5 := to_choiceL hc ((S.take.word.2.need [105, 110]).lines.ts.length) [] [] h4.good
  have hx := sz_choiceL hc hs ((S.take.word.2.need [105, 110]).lines.ts.length) [] [] h4.good
  have h6 := to_need h5.good [101, 115, 97, 99]
  have ht := take_lt h hk
  have := h2.len
  have := h3.len
  have := h4.len
  have := h6.len
  unfold SzAt choiceM at *
  simp only [sizeT, sizeL] at hx ⊢
  omega
theorem sz_compound {br : Do} (hb : BrSz br) {S : PS} (h : GoodS S) {r : Tr × PS} (hr : compoundM cmd br S = some r) : SzAt S r := by
  unfold compoundM at hr
  repeat' split at hr
  all_goals cases hr
  all_goals rename_i hi
  · exact sz_enclosed hc hs _ _ h (is_ne h (by decide) hi)
  · exact sz_enclosed hc hs _ _ h (is_ne h (by decide) hi)
  · exact sz_branch hc hs hb _ h (is_ne h (by decide) hi)
  · exact sz_loop hc hs _ h (is_ne h (by decide) hi)
  · exact sz_loop hc hs _ h (is_ne h (by decide) hi)
  · exact sz_each hc hs h (is_ne h (by decide) hi)
  · exact sz_choice hc hs h (is_ne h (by decide) hi)
omit hc hs in
theorem sz_simple {S : PS} (h : GoodS S) : SzAt S (simpleM S) := by
  have := (to_simple h).len
  unfold SzAt
  have e : sizeT (simpleM S).1 = 1 := by unfold simpleM; exact sizeT_leaf _
  omega
omit hc hs in
theorem sz_fun {held : Do} (sh : DoSz held) {S : PS} (h : GoodS S) (hf : S.isFun = true) : SzAt S (funM held S) := by
  have h1 := to_name h
  have h2 := to_need h1.good [40]
  have h3 := to_need h2.good [41]
  have h4 := to_lines h3.good
  have hn := sh _ h4.good
  have hname : S.isName = true := by
    unfold PS.isFun at hf
    rw [Bool.and_eq_true] at hf
    exact hf.1
  have hk : S.hd.kind ≠ 3 := fun e => by
    unfold PS.isName at hname
    rw [h.tx3 e] at hname
    revert hname
    decide +kernel
  have ht : S.name.2.ts.length < S.ts.length := by
    have e : S.name.2 = S.take := by unfold PS.name PS.want; rw [hname]; rfl
    rw [e]
    exact take_lt h hk
  have := h2.len
  have := h3.len
  have := h4.len
  unfold SzAt funM at *
  simp only [sizeT, sizeL_one]
  omega
theorem sz_command {br held : Do} (hb : DoOk br) (sb : BrSz br) (sh : DoSz held) : DoSz (commandM cmd br held) := fun S h => by
  unfold commandM
  split
  · rename_i hf
    exact sz_fun sh h hf
  · split
    · rename_i r hr
      have h1 := to_compound hc hb h hr
      have s1 := sz_compound hc hs sb h hr
      have h2 := (to_redirsL r.2.ts.length r.1.node h1.good).len
      unfold SzAt redirsM at *
      rw [sizeT_kids]
      dsimp only
      omega
    · exact sz_simple h
theorem sz_held : DoSz (heldM cmd) := fun S h => by
  unfold heldM
  split
  · rename_i hi
    exact sz_enclosed hc hs _ _ h (is_ne h (by decide) hi)
  · split
    · rename_i hi
      exact sz_enclosed hc hs _ _ h (is_ne h (by decide) hi)
    · have := (to_fail h (e := 2) (by decide)).len
      unfold SzAt tr0
      rw [sizeT_leaf]
      dsimp only
      omega
end
theorem sz_lv : ∀ k, DoSz (lv k).cmd ∧ BrSz (lv k).br ∧ DoSz (lv k).held
  | 0 => by
    refine ⟨fun S h => ?_, fun S h _ => ?_, fun S h => ?_⟩
    · have h1 := to_fail h (e := 3) (by decide)
      have := sz_simple h1.good
      have := h1.len
      show SzAt S (simpleM (S.fail 3))
      unfold SzAt at *
      omega
    · unfold SzAt lv tr0
      rw [sizeT_leaf]
      dsimp only
      omega
    · have := (to_fail h (e := 3) (by decide)).len
      unfold SzAt lv tr0
      rw [sizeT_leaf]
      dsimp only
      omega
  | k + 1 => by
    obtain ⟨h1, h2, h3⟩ := sz_lv k
    obtain ⟨k1, k2, k3⟩ := to_lv k
    exact ⟨sz_command k1 h1 k2 h2 h3, sz_branch k1 h1 h2, sz_held k1 h1⟩
theorem to_script {S : PS} (h : GoodS S) : To S (scriptM S).2 := by
  have h1 := to_list (to_lv 20).1 S h
  exact h1.trans (to_want h1.good _)
/-- All that a parser makes. -/
theorem script_size {S : PS} (h : GoodS S) : sizeT (scriptM S).1 ≤ 4 * S.ts.length + 1 := by
  have := sz_list (to_lv 20).1 (sz_lv 20).1 S h
  unfold SzAt at this
  unfold scriptM
  dsimp only
  omega
end Go.Proofs.YtakceggnadagmaaGreatDoor.ParseMath

namespace Go.Proofs.YtakceggnadagmaaGreatDoor.LexMath
open Go Go.Lib GlyphMath

/-- So much is left, less than there was; and the parts are short still. -/
def Less (xs ys : List Nat) : Prop := Suf xs ys ∧ ys.length < xs.length

theorem Less.suf {a b c : List Nat} (h : Less a b) (k : Suf b c) : Less a c := ⟨h.1.trans k, by have := k.len; have := h.2; omega⟩
theorem Suf.less {a b c : List Nat} (h : Suf a b) (k : Less b c) : Less a c := ⟨h.trans k.1, by have := h.len; have := k.2; omega⟩
theorem tail_less {xs : List Nat} (h : xs ≠ []) : Less xs xs.tail := by
  cases xs with
  | nil => exact absurd rfl h
  | cons a r => exact ⟨Suf.tail _, by simp⟩
theorem takes_less {p xs ys : List Nat} (h : takes p xs = some ys) (hp : p ≠ []) : Less xs ys := by
  refine ⟨Suf.takes h, ?_⟩
  rw [takes_length p xs ys h, List.length_append]
  have := List.length_pos_iff.2 hp
  omega

theorem escaped_less {xs ys : List Nat} {ps qs : List Pt} (h : escapedM xs ps = .ok (qs, ys)) : Less xs ys ∧ (Fits xs ps → Fits ys qs) := by
  unfold escapedM at h
  cases ht : xs.tail with
  | nil => rw [ht] at h; cases h
  | cons c r =>
    rw [ht] at h
    cases h
    have hx : xs ≠ [] := fun e => by rw [e] at ht; cases ht
    have h1 := tail_less hx
    rw [ht] at h1
    have h2 : Less xs ys := h1.suf ⟨[c], rfl⟩
    have h3 := h1.2
    simp only [List.length_cons] at h3
    exact ⟨h2, fun hf => hf.lit _ _ (by omega) (by have := (enc_length [c]).2; simp only [List.length_singleton] at this; omega)⟩
theorem escapedWithin_less {xs ys : List Nat} {ps qs : List Pt} (h : escapedWithinM xs ps = .ok (qs, ys)) : Less xs ys ∧ (Fits xs ps → Fits ys qs) := by
  unfold escapedWithinM at h
  cases ht : xs.tail with
  | nil => rw [ht] at h; cases h
  | cons c r =>
    rw [ht] at h
    cases h
    have hx : xs ≠ [] := fun e => by rw [e] at ht; cases ht
    have h1 := tail_less hx
    rw [ht] at h1
    have h3 := h1.2
    simp only [List.length_cons] at h3
    have h2 : Less xs ys := h1.suf ⟨[c], rfl⟩
    have h4 := (enc_length [c]).2
    simp only [List.length_singleton] at h4
    refine ⟨h2, fun hf => ?_⟩
    cases acts c with
    | true => exact hf.lit _ _ (by omega) (by omega)
    | false =>
      have hf1 : Fits (c :: ys) (lit ps [92] true) := hf.lit _ _ (by simp only [List.length_cons]; omega) (by simp only [List.length_cons, List.length_nil]; omega)
      exact hf1.lit _ _ (by simp) (by simp only [List.length_cons]; omega)
theorem single_less {xs ys : List Nat} {ps qs : List Pt} (h : singleM xs ps = .ok (qs, ys)) (hx : xs ≠ []) : Less xs ys ∧ (Fits xs ps → Fits ys qs) := by
  unfold singleM at h
  have h1 := tail_less hx
  cases ht : takes [39] (left (fun r => r == 39) xs.tail) with
  | none => rw [ht] at h; cases h
  | some r =>
    rw [ht] at h
    cases h
    have h2 := takes_less ht (by decide)
    have h3 := got_length (fun r => r == 39) xs.tail
    have h4 := (enc_length (got (fun r => r == 39) xs.tail)).2
    have h5 := h1.2
    have h6 := h2.2
    exact ⟨h1.suf ((Suf.left _ _).trans h2.1), fun hf => hf.lit _ _ (by omega) (by omega)⟩
theorem parameter_suf {xs ys : List Nat} {l : List Nat} (h : parameterM xs = .ok (l, ys)) : Suf xs ys ∧ l.length + ys.length ≤ xs.length ∧ ys.length < xs.length := by
  unfold parameterM at h
  cases xs with
  | nil =>
    have e1 : other (next []) = false := rfl
    rw [e1] at h
    simp [got, nameL] at h
  | cons a r =>
    split at h
    · cases h
      exact ⟨⟨[a], rfl⟩, by simp only [List.length_cons, List.length_nil, List.tail_cons]; omega, by simp⟩
    · split at h
      · rename_i hn
        cases h
        have h3 := got_length (fun r => !moreR r) (a :: r)
        refine ⟨Suf.left _ _, by omega, ?_⟩
        cases hg : got (fun r => !moreR r) (a :: r) with
        | nil => rw [hg] at hn; simp [nameL] at hn
        | cons b s => rw [hg, List.length_cons] at h3; omega
      · cases h
theorem op_suf {nm : Bool} {xs ys : List Nat} {o : List UInt8} (h : opM nm xs = some (o, ys)) : Less xs ys := by
  unfold opM at h
  split at h
  · rename_i hs; cases h; exact takes_less hs (by decide)
  · split at h
    · rename_i hs; cases h; exact takes_less hs (by decide)
    · split at h
      · split at h
        · rename_i hs; cases h; exact takes_less hs (by decide)
        · cases h
      · cases h
theorem close_less {xs ys : List Nat} {p q : Pt} (h : closeM p xs = .ok (q, ys)) : Less xs ys ∧ q = p := by
  unfold closeM at h
  split at h
  · rename_i hs; cases h; exact ⟨takes_less hs (by decide), rfl⟩
  · cases h

/-- Parts that leave less, and texts that are short. -/
def PartsOk (f : List Nat → Res (List Pt)) : Prop := ∀ xs ps ys, f xs = .ok (ps, ys) → Suf xs ys
def BraceOk (f : List Nat → Res Pt) : Prop := ∀ xs p ys, f xs = .ok (p, ys) → Less xs ys ∧ p.text.length + 4 * ys.length ≤ 4 * xs.length

theorem operation_ok {f : List Nat → Res (List Pt)} (hf : PartsOk f) {l xs ys : List Nat} {p : Pt} (h : operationM f l xs = .ok (p, ys)) : Suf xs ys ∧ p.text.length + 4 * ys.length ≤ 4 * xs.length + 4 * l.length := by
  unfold operationM at h
  split at h
  · cases hp : parameterM xs with
    | error e => rw [hp] at h; cases h
    | ok a =>
      obtain ⟨l', r⟩ := a
      rw [hp] at h
      cases h
      obtain ⟨h1, h2, _⟩ := parameter_suf hp
      have := (enc_length l').2
      exact ⟨h1, by simp only; omega⟩
  · cases hp : opM (nameL l) xs with
    | none => rw [hp] at h; cases h
    | some a =>
      obtain ⟨o, r⟩ := a
      rw [hp] at h
      simp only at h
      have h1 := op_suf hp
      cases hq : f r with
      | error e => rw [hq] at h; cases h
      | ok b =>
        obtain ⟨w, r'⟩ := b
        rw [hq] at h
        cases h
        have h2 := hf _ _ _ hq
        have := (enc_length l).2
        have := h2.len
        have := h1.2
        exact ⟨h1.1.trans h2, by simp only; omega⟩
theorem braces_ok {f : List Nat → Res (List Pt)} (hf : PartsOk f) (lim : Bool) : BraceOk (bracesM lim f) := by
  intro xs p ys h
  unfold bracesM at h
  split at h
  · cases h
  · cases hp : parameterM xs with
    | error e => rw [hp] at h; cases h
    | ok a =>
      obtain ⟨l, r⟩ := a
      rw [hp] at h
      simp only at h
      obtain ⟨h1, h2, h3⟩ := parameter_suf hp
      split at h
      · obtain ⟨k1, rfl⟩ := close_less h
        have := (enc_length l).2
        have := k1.2
        exact ⟨h1.less k1, by simp only; omega⟩
      · cases hq : operationM f l r with
        | error e => rw [hq] at h; cases h
        | ok b =>
          obtain ⟨p', r'⟩ := b
          rw [hq] at h
          simp only at h
          obtain ⟨k1, k2⟩ := close_less h
          obtain ⟨m1, m2⟩ := operation_ok hf hq
          have := k1.2
          rw [k2]
          exact ⟨(h1.trans m1).less k1, by omega⟩
theorem arith_suf : ∀ (xs : List Nat) (n : Nat) (acc l ys : List Nat), arithM xs n acc = .ok (l, ys) → Suf xs ys ∧ l.length + ys.length ≤ acc.length + xs.length ∧ (ys.length < xs.length)
  | [], n, acc, l, ys, h => by cases h
  | c :: r, n, acc, l, ys, h => by
    rw [arithM] at h
    split at h
    · split at h
      · cases h
        cases r with
        | nil => exact ⟨⟨[c], rfl⟩, by simp, by simp⟩
        | cons d s => exact ⟨⟨[c, d], rfl⟩, by simp only [List.tail_cons, List.length_cons]; omega, by simp only [List.tail_cons, List.length_cons]; omega⟩
      · cases h
    · split at h
      · obtain ⟨h1, h2, h3⟩ := arith_suf r _ _ _ _ h
        refine ⟨Suf.trans ⟨[c], rfl⟩ h1, ?_, ?_⟩
        · simp only [List.length_append, List.length_nil, List.length_cons] at h2 ⊢; omega
        · simp only [List.length_cons]; omega
      · cases h
theorem dollar_less {br : List Nat → Res Pt} (hb : BraceOk br) {q : Bool} {xs ys : List Nat} {ps qs : List Pt} (h : dollarM br q xs ps = .ok (qs, ys)) (hx : xs ≠ []) : Less xs ys ∧ (Fits xs ps → Fits ys qs) := by
  unfold dollarM at h
  have h0 := tail_less hx
  have h00 := h0.2
  split at h
  · rename_i r hs
    have h1 := takes_less hs (by decide)
    have h11 := h1.2
    cases hp : br r with
    | error e => rw [hp] at h; cases h
    | ok a =>
      obtain ⟨p, r'⟩ := a
      rw [hp] at h
      cases h
      obtain ⟨h2, h3⟩ := hb _ _ _ hp
      have h22 := h2.2
      exact ⟨h0.suf (h1.1.trans h2.1), fun hf => hf.add (by omega) (by have := hf.1; simp only; omega)⟩
  · split at h
    · rename_i r hs
      have h1 := takes_less hs (by decide)
      have h11 := h1.2
      cases hp : arithM r 0 [] with
      | error e => rw [hp] at h; cases h
      | ok a =>
        obtain ⟨l, r'⟩ := a
        rw [hp] at h
        cases h
        obtain ⟨h2, h3, h4⟩ := arith_suf _ _ _ _ _ hp
        have h5 := (enc_length l).2
        simp only [List.length_nil] at h3
        exact ⟨h0.suf (h1.1.trans h2), fun hf => hf.add (by omega) (by have := hf.1; simp only; omega)⟩
    · split at h
      · cases hp : parameterM xs.tail with
        | error e => rw [hp] at h; cases h
        | ok a =>
          obtain ⟨l, r'⟩ := a
          rw [hp] at h
          cases h
          obtain ⟨h2, h3, h4⟩ := parameter_suf hp
          have h5 := (enc_length l).2
          exact ⟨h0.suf h2, fun hf => hf.add (by omega) (by have := hf.1; simp only; omega)⟩
      · cases h
        exact ⟨h0, fun hf => hf.lit _ _ (by omega) (by simp only [List.length_singleton]; omega)⟩
theorem within_less {br : List Nat → Res Pt} (hb : BraceOk br) {xs ys : List Nat} {ps qs : List Pt} (h : withinM br xs ps = .ok (qs, ys)) (hn : next xs ≠ 34) : Less xs ys ∧ (Fits xs ps → Fits ys qs) := by
  unfold withinM at h
  have hx : next xs ≠ 0 → xs ≠ [] := fun h0 e => h0 (by rw [e]; rfl)
  split at h
  · cases h
  · rename_i h0
    split at h
    · exact escapedWithin_less h
    · split at h
      · exact dollar_less hb h (hx h0)
      · rename_i h1 h2
        cases h
        cases xs with
        | nil => exact absurd rfl h0
        | cons c r =>
          simp only [next] at hn h0 h1 h2
          have ha : acts c = false := by simp [acts, hn, h1, h2]
          have h3 := left_lt acts c r ha
          have h4 := got_length acts (c :: r)
          have h5 := (enc_length (got acts (c :: r))).2
          exact ⟨⟨Suf.left _ _, h3⟩, fun hf => hf.lit _ _ (by omega) (by omega)⟩
theorem doubleL_less {br : List Nat → Res Pt} (hb : BraceOk br) : ∀ (f : Nat) (xs ys : List Nat) (ps qs : List Pt), doubleL br f xs ps = .ok (qs, ys) → Suf xs ys ∧ (Fits xs ps → Fits ys qs)
  | 0, _, _, _, _, h => by cases h
  | f + 1, xs, ys, ps, qs, h => by
    rw [doubleL] at h
    split at h
    · rename_i r hs
      cases h
      have h1 := takes_less hs (by decide)
      have h2 := h1.2
      exact ⟨h1.1, fun hf => hf.mono (by omega)⟩
    · rename_i hs
      cases hw : withinM br xs ps with
      | error e => rw [hw] at h; cases h
      | ok a =>
        obtain ⟨ps', xs'⟩ := a
        rw [hw] at h
        simp only at h
        have hn : next xs ≠ 34 := fun e => by
          rw [takes_one, if_pos ⟨e, fun e' => by rw [e'] at e; cases e⟩] at hs
          cases hs
        obtain ⟨h1, h2⟩ := within_less hb hw hn
        obtain ⟨h3, h4⟩ := doubleL_less hb f _ _ _ _ h
        exact ⟨h1.1.trans h3, fun hf => h4 (h2 hf)⟩
theorem double_less {br : List Nat → Res Pt} (hb : BraceOk br) {xs ys : List Nat} {ps qs : List Pt} (h : doubleM br xs ps = .ok (qs, ys)) (hx : xs ≠ []) : Less xs ys ∧ (Fits xs ps → Fits ys qs) := by
  unfold doubleM at h
  have h0 := tail_less hx
  have h00 := h0.2
  obtain ⟨h1, h2⟩ := doubleL_less hb _ _ _ _ _ h
  refine ⟨h0.suf h1, fun hf => h2 ?_⟩
  split
  · exact hf.lit _ _ (by omega) (by simp only [List.length_nil]; omega)
  · exact hf.mono (by omega)
theorem part_less {br : List Nat → Res Pt} (hb : BraceOk br) {deep : Bool} {xs ys : List Nat} {ps qs : List Pt} (h : partM br deep xs ps = .ok (qs, ys)) (hn : next xs ≠ 0) (he : ends (next xs) deep = false) : Less xs ys ∧ (Fits xs ps → Fits ys qs) := by
  unfold partM at h
  have hx : xs ≠ [] := fun e => hn (by rw [e]; rfl)
  split at h
  · exact escaped_less h
  · split at h
    · exact single_less h hx
    · split at h
      · exact double_less hb h hx
      · split at h
        · exact dollar_less hb h hx
        · rename_i h1 h2 h3 h4
          cases h
          cases xs with
          | nil => exact absurd rfl hn
          | cons c r =>
            simp only [next] at he h1 h2 h3 h4
            have ha : (begins c || ends c deep) = false := by simp [begins, acts, h1, h2, h3, h4, he]
            have h5 := left_lt (fun r => begins r || ends r deep) c r ha
            have h6 := got_length (fun r => begins r || ends r deep) (c :: r)
            have h7 := (enc_length (got (fun r => begins r || ends r deep) (c :: r))).2
            exact ⟨⟨Suf.left _ _, h5⟩, fun hf => hf.lit _ _ (by omega) (by omega)⟩
theorem partsL_suf {br : List Nat → Res Pt} (hb : BraceOk br) {deep : Bool} : ∀ (f : Nat) (xs ys : List Nat) (ps qs : List Pt), partsL br deep f xs ps = .ok (qs, ys) → Suf xs ys
  | 0, _, _, _, _, h => by cases h
  | f + 1, xs, ys, ps, qs, h => by
    rw [partsL] at h
    split at h
    · cases h; exact Suf.refl _
    · rename_i hc
      cases hw : partM br deep xs ps with
      | error e => rw [hw] at h; cases h
      | ok a =>
        obtain ⟨ps', xs'⟩ := a
        rw [hw] at h
        simp only at h
        have h1 := (part_less hb hw (fun e => hc (.inl e)) (by cases hh : ends (next xs) deep with
          | true => exact absurd (.inr hh) hc
          | false => rfl)).1
        exact h1.1.trans (partsL_suf hb f _ _ _ _ h)
theorem parts_ok : ∀ d, PartsOk (partsM d)
  | 0 => fun xs ps ys h => partsL_suf (braces_ok (f := fun _ => .error 0) (fun _ _ _ h => by cases h) true) _ _ _ _ _ h
  | d + 1 => fun xs ps ys h => partsL_suf (braces_ok (parts_ok d) false) _ _ _ _ _ h
end Go.Proofs.YtakceggnadagmaaGreatDoor.LexMath

namespace Go.Proofs.YtakceggnadagmaaGreatDoor
open Go Go.RowKit GlyphMath

theorem ret_bool {a b : Bool} (h : a = b) : Ending.returned (.bool a) = .returned (.bool b) := by rw [h]
theorem bool_iff {a b : Bool} (h : a = true ↔ b = true) : a = b := Bool.eq_iff_iff.2 h

theorem first_any (r : Int) (w : World) :
    Calls Tryz.prog 149 #[.int .i32 r] w fun e w' => e = .returned (.bool (firstR r)) ∧ w = w' := by
  go_enter Tryz.func149, Tryz.ntmps149
  go_wp2_with fail
  all_goals
    go_ret
    refine ⟨ret_bool (bool_iff ?_), rfl⟩
    unfold firstR
    first | (simp; done) | (simp; omega)

theorem more_any (r : Int) (w : World) :
    Calls Tryz.prog 177 #[.int .i32 r] w fun e w' => e = .returned (.bool (moreR r)) ∧ w = w' := by
  unfold moreR
  generalize hF : firstR r = F
  have HF := Lib.hid hF
  clear hF
  cases F
  all_goals
    go_enter Tryz.func177, Tryz.ntmps177
    go_wp2_with (go_at_call 149; refine (first_any r _).mono ?_; rintro e w1 ⟨rfl, rfl⟩; (try rw [HF.out]))
  all_goals
    go_ret
    refine ⟨ret_bool (bool_iff ?_), rfl⟩
    first | (simp; done) | (simp; omega)
end Go.Proofs.YtakceggnadagmaaGreatDoor
