/-
  Proved: the contract of Tokens, of a text. Conditions: at most 2000 bytes; the program's signs lie as they should.
-/
import Derived.Test.YtpifbpfmjmcchaaDoorLexToks
namespace Go.Proofs.YtpifbpfmjmcchaaDoor
open Go Go.RowKit GlyphMath LexMath

/-- What Tokens answers. -/
def TksEnd (w w' : World) (e : Ending) (sz : Nat) (m : Except (Nat × Nat) (List Tk)) : Prop :=
  match m with
  | .ok ts => ∃ v X us F, e = .returned (.tuple #[v, .int .i64 (sz : Int), .int .i64 0]) ∧ TokO w' w.heap.size X v us F ts ∧ Below w.heap.size w w'
  | .error (n, c) => (c = 2 ∨ c = 3) ∧ e = .returned (.tuple #[zeroV, .int .i64 (n : Int), .int .i64 (c : Int)]) ∧ Below w.heap.size w w'

/-- What Tokens is doing. -/
structure LAt (w wr : World) (X G sz : Nat) (M : Except (Nat × Nat) (List Tk)) (f : Nat) (ys : List Nat) (v : Value) (us : List Value) (F : Nat → Prop) (ts : List Tk) : Prop where
  rd : Rd wr X G sz ys
  signs : Signs wr
  row : TokO wr w.heap.size X v us F ts
  apart : v.ownBlock ≠ some G
  below : Below w.heap.size w wr
  said : tokensL sz f ys ts = M
  fuel : ys.length < f
  few : ts.length + ys.length ≤ 4000

theorem infoTok : (Tryd.prog.info? 36).map (fun i => (i.zero, i.size, i.bytes)) = some (some (.agg #[.int .i64 0, .string ⟨#[]⟩, .slice none 0 0, .int .i64 0]), 4, 56) := by kernel_rfl
theorem below_kept {D : Nat → Prop} {w w1 w2 : World} {B : Nat} (h : Below B w w1) (k : Kept D w1 w2) (hD : ∀ i, D i → B ≤ i) (hB : B ≤ w1.heap.size) : Below B w w2 :=
  h.trans ⟨k.os, k.tape, k.output, k.size, fun i hi => k.block i (by omega) fun hd => by have := hD i hd; omega⟩
theorem tokensL_end {sz f : Nat} {xs : List Nat} {l : List Tk} (h : skipM xs = []) : tokensL sz (f + 1) xs l = .ok (l ++ [⟨3, [], [], sz⟩]) := by rw [tokensL, if_pos h]
theorem tokensL_bad {sz f c : Nat} {xs : List Nat} {l : List Tk} (h : skipM xs ≠ []) (ht : tokenM (sz - (enc (skipM xs)).length) (skipM xs) = .error c) : tokensL sz (f + 1) xs l = .error (sz - (enc (skipM xs)).length, c) := by rw [tokensL, if_neg h, ht]
theorem tokensL_go {sz f : Nat} {xs r : List Nat} {l : List Tk} {t : Tk} (h : skipM xs ≠ []) (ht : tokenM (sz - (enc (skipM xs)).length) (skipM xs) = .ok (t, r)) : tokensL sz (f + 1) xs l = tokensL sz f r (l ++ [t]) := by rw [tokensL, if_neg h, ht]

theorem tok_append {ops : Array Oper} {rest : List Oper} {o : Oper} {a : Act} {Q : Exit → Act → World → Prop} {W : World} (hgd : o.guard = none) (s x : Operand)
    (ho : o.op = .call { callee := .builtin .append, args := #[s, x], argTypes := #[28, 28] }) (base : Nat) (v : Value) (k : Nat) (xs : List Value) (hs : a.eval s = v)
    (hown : W.ownsRow base 36 4 v k xs) (ad : Addr) (u1 u2 u3 u4 : Value) (hx : a.eval x = .slice (some ad) 1 1) (hnews : ∀ (j : Nat) (u : Value), [u1, u2, u3, u4][j]? = some u → W.cell? (ad.add j) = some u)
    (h1 : ∀ u ∈ [u1, u2, u3, u4], u.oneCell' = true) (hk : k ≤ 4000) (hbase : base ≤ W.heap.size) (H : Nat) (hH : W.heap.size = H)
    (h : ∀ g cap w', w'.ownsRow base 36 4 (.slice (some ⟨g, 0, none⟩) (k + 1) cap) (k + 1) (xs ++ [u1, u2, u3, u4]) → W.grownBy w' v.ownBlock → (v.ownBlock = some g ∨ g = H) → g < w'.heap.size → wpList Tryd.prog ops Q rest (a.put o.dst (.slice (some ⟨g, 0, none⟩) (k + 1) cap)) w') :
    wpList Tryd.prog ops Q (o :: rest) a W := by
  obtain ⟨i0, hi, hz0, hz1, hz2⟩ := info_parts infoTok
  exact wpList_append_lies W hgd s x 28 ho base 36 i0 (.agg #[.int .i64 0, .string ⟨#[]⟩, .slice none 0 0, .int .i64 0]) 4 56 Tryd.underlying28 hi hz0 hz1 hz2 rfl (by decide)
    v k xs hs hown ad 1 1 [u1, u2, u3, u4] hx rfl hnews h1 (by decide) (by unfold maxLen; omega) (by omega) hbase H hH h
theorem block_first {w5 w7 : World} {t1 t2 t3 t4 : Value} {o2 : Obj} {T : TypeId} {ob : Option Nat} (hg : ((w5.alloc (.cells #[t1, t2, t3, t4] T)).alloc o2).grownBy w7 ob) (hne : ob ≠ some w5.heap.size) : w7.cell? ⟨w5.heap.size, 0, none⟩ = some t1 := by
  have hb : w7.heap[w5.heap.size]? = some (.cells #[t1, t2, t3, t4] T) :=
    (hg.block w5.heap.size (by simp; omega) (fun e => hne e.symm)).trans ((Below.heap_alloc _ _ _ (by simp)).trans (heap_alloc_new w5 _))
  exact World.news_of_block hb 0 t1 rfl

theorem tok_step {w w3 w5 w7 : World} {X G sz k g cap : Nat} {v u v' : Value} {us : List Value} {F : Nat → Prop} {ts : List Tk} {t : Tk} {T : ByteArray} {r zs : List Nat} {o1 o2 : Obj}
    (hw : 0 < w.heap.size) (hX : w.heap.size ≤ X) (hrow : TokO w3 w.heap.size X v us F ts) (hap : v.ownBlock ≠ some G) (hb : Below w.heap.size w w3) (hsg : Signs w3) (hr3 : Rd w3 X G sz zs)
    (hk : ts.length = k) (hT : txt t.text = .string T) (hwn : WordN w5 w3.heap.size u t.word) (hr5 : Rd w5 X G sz r) (hk5 : Kept (fun k => k = X) w3 w5)
    (hown : w7.ownsRow w.heap.size 36 4 (.slice (some ⟨g, 0, none⟩) (k + 1) cap) (k + 1) (tokCells ts us ++ [.int .i64 t.kind, .string T, u, .int .i64 (t.at_ : Int)])) (hgr : ((w5.alloc o1).alloc o2).grownBy w7 v'.ownBlock) (hat : v'.ownBlock = some g ∨ g = w5.heap.size + 2) (hv : v'.ownBlock = v.ownBlock) :
    Below w.heap.size w w7 ∧ Rd w7 X G sz r ∧ Signs w7 ∧ (Value.slice (some ⟨g, 0, none⟩) (k + 1) cap).ownBlock ≠ some G ∧ ∃ us' F', TokO w7 w.heap.size X (.slice (some ⟨g, 0, none⟩) (k + 1) cap) us' F' (ts ++ [t]) := by
  subst hk
  rw [hv] at hgr hat
  have hb5 : Below w.heap.size w w5 := below_kept hb hk5 (fun i e => by omega) hb.size
  have s35 := hk5.size
  have hlt3 : ∀ j, v.ownBlock = some j → w.heap.size ≤ j ∧ j < w3.heap.size := fun j e => World.ownsRow.lt hrow.own j e
  have hk6 : Kept (fun _ => False) w5 (w5.alloc o1) := Kept.of_below ((Below.refl _ w5).alloc (Nat.le_refl _) _)
  have hk62 : Kept (fun _ => False) w5 ((w5.alloc o1).alloc o2) := Kept.of_below (((Below.refl _ w5).alloc (Nat.le_refl _) _).alloc (by simp) _)
  have hrow6 := (hrow.kept hk5 (fun i _ _ hne e => hne e)).kept hk6 (fun _ _ _ _ h => h)
  have hsz6 : (w5.alloc o1).heap.size = w5.heap.size + 1 := by simp
  have hk57 : Kept (fun i => v.ownBlock = some i) w5 w7 := ⟨hgr.os.trans hk62.os, hgr.tape.trans hk62.tape, hgr.output.trans hk62.output, Nat.le_trans hk62.size hgr.size, fun i hi hn => (hgr.block i (by simp; omega) (fun e => hn e.symm)).trans (hk62.block i hi (fun h => h))⟩
  refine ⟨below_kept hb5 hk57 (fun i hi => (hlt3 i hi).1) hb5.size, hr5.kept hk57 hrow.ne hap, (hsg.kept hk5 (fun e => by omega)).kept hk57 (fun e => by have := (hlt3 _ e).1; omega), ?_, ?_⟩
  · simp only [Value.ownBlock, ne_eq, Option.some.injEq]
    intro e
    rcases hat with h | h
    · exact hap (by rw [h, e])
    · have := hr5.lt.2; omega
  · obtain ⟨F', h⟩ := TokO.add hrow6 (by have := hr5.lt.1; omega) (hwn.kept hk6 (fun _ _ h => h)) (by have := hb.size; omega) hr3.lt.1 (fun j e => (hlt3 j e).2) (by rw [tcells, hT]; exact hown) hgr (by rw [hsz6]; exact hat)
    exact ⟨_, F', h⟩

set_option maxHeartbeats 1000000 in
set_option maxRecDepth 100000 in
theorem tokens_in (s : ByteArray) (w : World) (hs : s.size ≤ 2000) (ht : isText s = true) (hS : Signs w) :
    Calls Tryd.prog 8 #[.string s] w fun e w' => TksEnd w w' e s.size (tokensL s.size ((letters s).length + 1) (letters s) []) := by
  have HV := Lib.hid (show _ from by have := valid_any s w; rw [ht] at this; exact this)
  have hsi : ¬ (2000 : Int) < (s.size : Int) := by omega
  have HS := Lib.hid hs
  have HT := Lib.hid ht
  have HSG := Lib.hid hS
  have hw0 : 0 < w.heap.size := World.block_lt_of_cell? w _ (hS 0 _ rfl)
  have HW0 := Lib.hid hw0
  obtain ⟨M, hM⟩ : ∃ M, tokensL s.size ((letters s).length + 1) (letters s) [] = M := ⟨_, rfl⟩
  rw [hM]
  have HM := Lib.hid hM
  obtain ⟨i0, hi, hz0, hz1, hz2⟩ := info_parts infoTok
  obtain ⟨P, hP⟩ : ∃ P : Int, (place s : Int) = P := ⟨_, rfl⟩
  rw [hP] at HV
  clear hs ht hS hw0 hM hP
  go_enter Tryd.func8, Tryd.ntmps8
  go_wp2_with fail
  refine HV.out.mono ?_
  rintro e w1 ⟨rfl, hb1⟩
  have H1 := Lib.hid hb1
  clear hb1
  go_wp2_with fail
  refine (read_any s w1 HS.out HT.out).mono ?_
  rintro e w2 ⟨X, G, rfl, hr2, hb2, hX2, hG2⟩
  have HXG := Lib.hid (show w.heap.size ≤ X ∧ w.heap.size ≤ G by have := H1.out.size; omega)
  have hB2 : Below w.heap.size w w2 := H1.out.trans (hb2.mono H1.out.size)
  have HA0 := Lib.hid (show LAt w w2 X G s.size M ((letters s).length + 1) (letters s) (.slice none 0 0) [] (fun _ => False) [] from
    ⟨hr2, HSG.out.kept (D := fun _ => False) (Kept.of_below hB2) (fun h => h), TokO.nil _ _ _, by simp [Value.ownBlock], hB2, HM.out, by omega, by have := hr2.few; simp; omega⟩)
  clear hr2 hb2 hX2 hG2 hB2
  go_wp2_with fail
  go_loopw [2] (fun v wr => ∃ f ys us F ts, LAt w wr X G s.size M f ys v us F ts) (fun _ wr => lenAt wr X)
  case atStart => exact ⟨_, _, _, _, _, HA0.out⟩
  case round =>
    obtain ⟨f, ys, us, F, ts, hA⟩ := hrel
    obtain ⟨f, rfl⟩ : ∃ g, f = g + 1 := ⟨f - 1, by have := hA.fuel; omega⟩
    obtain ⟨a, c, hv⟩ := hA.row.shape
    subst hv
    have HA := Lib.hid hA
    obtain ⟨k, hk⟩ : ∃ k, ts.length = k := ⟨_, rfl⟩
    have HK := Lib.hid hk
    rw [hk]
    have hki : (k : Int) ≤ 4000 := by have := hA.few; omega
    have hk0 : (0 : Int) ≤ (k : Int) := by omega
    clear hA hk
    obtain ⟨zs, hzs⟩ : ∃ zs, skipM ys = zs := ⟨_, rfl⟩
    have HZ := Lib.hid hzs
    obtain ⟨n, hn⟩ : ∃ n, s.size - (enc zs).length = n := ⟨_, rfl⟩
    have HNN := Lib.hid hn
    obtain ⟨m, hm⟩ : ∃ m, tokM n zs = m := ⟨_, rfl⟩
    have HMM := Lib.hid hm
    clear hzs hn hm
    go_wp2_with (first
      | (go_at_call 15; refine (skip_any HA.out.rd).mono ?_; rintro e w3 ⟨rfl, hs3⟩; rw [HZ.out] at hs3; have HS3 := Lib.hid hs3; clear hs3)
      | (go_at_call 16; refine (at_any HS3.out.1).mono ?_; rintro e w4 ⟨rfl, rfl⟩; rw [HNN.out]))
    have hsg3 : Signs w3 := HA.out.signs.kept HS3.out.2 (fun e => by have h1 := HXG.out.1; have h2 := HW0.out; omega)
    have htk := token_any HS3.out.1 hsg3
    rw [HNN.out, HMM.out] at htk
    refine htk.mono ?_
    have hrow3 := HA.out.row.kept HS3.out.2 (fun i _ _ hne e => hne e)
    have hbel3 := below_kept HA.out.below HS3.out.2 (fun i e => by have := HXG.out.1; omega) HA.out.below.size
    have H3 := Lib.hid (And.intro hsg3 (And.intro hrow3 hbel3))
    clear htk hsg3 hrow3 hbel3
    rcases m with cc | ⟨t, r⟩
    · rintro e w5 ⟨hcc, rfl, hk5⟩
      have H5 := Lib.hid (And.intro hcc hk5)
      have hc0 : (((cc : Nat) : Int) != 0) = true := by rcases hcc with rfl | rfl <;> rfl
      clear hcc hk5
      rw [show tokV ⟨0, [], [], 0⟩ zeroV = .agg #[.int .i64 0, .string ⟨#[]⟩, .slice none 0 0, .int .i64 0] from rfl]
      go_wp2_with fail
      go_ret3
      have hz : zs ≠ [] := by
        intro hz
        have h := HMM.out
        rw [tokM, if_pos hz] at h
        cases h
      have hm := HA.out.said
      have ht : tokenM (s.size - (enc (skipM ys)).length) (skipM ys) = .error cc := by
        have h := HMM.out
        rw [tokM, if_neg hz] at h
        rw [HZ.out, HNN.out, h]
      rw [tokensL_bad (by rw [HZ.out]; exact hz) ht, HZ.out, HNN.out] at hm
      rw [← hm]
      exact ⟨H5.out.1, rfl, (below_kept H3.out.2.2 H5.out.2 (fun i e => by have := HXG.out.1; omega) H3.out.2.2.size).alloc (by have := H3.out.2.2.size; have := H5.out.2.size; omega) _⟩
    · rintro e w5 ⟨u, rfl, hwn, hr5, hk5⟩
      have hkk : k ≤ 4000 := by omega
      obtain ⟨T, hT⟩ : ∃ T : ByteArray, txt t.text = .string T := ⟨_, rfl⟩
      obtain ⟨ad, cp, hu⟩ := hwn.shape
      obtain ⟨np, hnp⟩ : ∃ np, t.word.length = np := ⟨_, rfl⟩
      rw [hnp] at hu
      subst hu
      rw [show tokV t (.slice ad np cp) = .agg #[.int .i64 t.kind, .string T, .slice ad np cp, .int .i64 (t.at_ : Int)] by rw [tokV, hT]]
      have H5 := Lib.hid (And.intro hT (And.intro hwn (And.intro hr5 hk5)))
      have hrow5 := H3.out.2.1.kept hk5 (fun i _ _ hne e => hne e)
      have hown5 := hrow5.own
      rw [HK.out] at hown5
      have HR5 := Lib.hid hrow5
      have HO := Lib.hid (show ∀ o1 o2, ((w5.alloc o1).alloc o2).ownsRow w.heap.size 36 4 (.slice a k c) k (tokCells ts us) from fun o1 o2 => (hown5.alloc o1).alloc o2)
      have HC := Lib.hid (show k + 1 ≤ maxLen ∧ (k + 1) * 56 ≤ 140737488355328 ∧ w.heap.size ≤ w5.heap.size from ⟨by unfold maxLen; omega, by omega, by have := H3.out.2.2.size; have := hk5.size; omega⟩)
      have HNEW := Lib.hid (show ∀ (o1 : Obj) (j : Nat) (x : Value), [Value.int .i64 t.kind, .string T, .slice ad np cp, .int .i64 (t.at_ : Int)][j]? = some x → ((w5.alloc o1).alloc (.cells #[.int .i64 t.kind, .string T, .slice ad np cp, .int .i64 (t.at_ : Int)] 36)).cell? ((⟨w5.heap.size + 1, 0, none⟩ : Addr).add j) = some x from fun o1 j x hj => by
        have h := World.news_of_block (heap_alloc_new (w5.alloc o1) (.cells #[.int .i64 t.kind, .string T, .slice ad np cp, .int .i64 (t.at_ : Int)] 36)) j x hj
        rwa [show (w5.alloc o1).heap.size = w5.heap.size + 1 by simp] at h)
      have HC2 := Lib.hid (show ∀ (o1 o2 : Obj), w.heap.size ≤ ((w5.alloc o1).alloc o2).heap.size ∧ ((w5.alloc o1).alloc o2).heap.size = w5.heap.size + 2 from fun o1 o2 => ⟨by have := HC.out.2.2; simp; omega, by simp⟩)
      have HVB := Lib.hid (show (Value.slice a k c).ownBlock ≠ some w5.heap.size from fun e => by have := (World.ownsRow.lt hown5 _ e).2; omega)
      clear hT hwn hr5 hk5 hnp hrow5 hown5
      go_wp2_with (at_builtin; refine tok_append rfl _ _ rfl w.heap.size _ k _ rfl (HO.out _ _) ⟨w5.heap.size + 1, 0, none⟩ _ _ _ _ rfl (HNEW.out _) (by intro x hx; simp at hx; rcases hx with rfl | rfl | rfl | rfl <;> rfl) (by omega) (HC2.out _ _).1 (w5.heap.size + 2) (HC2.out _ _).2 ?_; intro g cap w7 hown7 hg7 hat7 hlt7; have hcell7 := block_first hg7 HVB.out; have H7 := Lib.hid (And.intro hown7 (And.intro hg7 (And.intro hat7 hlt7))); clear hown7 hg7 hat7 hlt7)
      · go_ret3
        have hkd : t.kind = 3 := by simpa using (‹(t.kind == 3) = true›)
        obtain ⟨hT, hwn, hr5, hk5⟩ := H5.out
        obtain ⟨hown7, hg7, hat7, hlt7⟩ := H7.out
        obtain ⟨hb7, hr7, hsg7, hap7, us', F', hrow7⟩ := tok_step HW0.out HXG.out.1 H3.out.2.1 HA.out.apart H3.out.2.2 H3.out.1 HS3.out.1 HK.out hT hwn hr5 hk5 hown7 hg7 hat7 (by rw [HK.out]; rfl)
        have hz : zs = [] := by
          apply Classical.byContradiction
          intro hz
          have h := HMM.out
          rw [tokM, if_neg hz] at h
          rcases skip_next ys with h2 | h2
          · exact hz (HZ.out.symm.trans h2)
          · rw [HZ.out] at h2
            exact (token_less HS3.out.1.good hz h2.1 h2.2 h).2 hkd
        have hm := HA.out.said
        have ht : t = ⟨3, [], [], s.size⟩ ∧ n = s.size := by
          have h := HMM.out
          have h2 := HNN.out
          rw [tokM, if_pos hz] at h
          rw [hz] at h2
          cases h
          exact ⟨by rw [← h2]; rfl, by rw [← h2]; rfl⟩
        rw [tokensL_end (HZ.out.trans hz), ← ht.1] at hm
        rw [← hm]
        refine ⟨_, X, us', F', ?_, hrow7, hb7⟩
        rw [ht.2]
        rfl
      · have hkd : t.kind ≠ 3 := by simpa using (‹(t.kind == 3) = false›)
        obtain ⟨hT, hwn, hr5, hk5⟩ := H5.out
        obtain ⟨hown7, hg7, hat7, hlt7⟩ := H7.out
        obtain ⟨hb7, hr7, hsg7, hap7, us', F', hrow7⟩ := tok_step HW0.out HXG.out.1 H3.out.2.1 HA.out.apart H3.out.2.2 H3.out.1 HS3.out.1 HK.out hT hwn hr5 hk5 hown7 hg7 hat7 (by rw [HK.out]; rfl)
        have hz : zs ≠ [] := by
          intro hz
          have h := HMM.out
          rw [tokM, if_pos hz] at h
          cases h
          exact hkd rfl
        have hl : Less zs r := by
          have h := HMM.out
          rw [tokM, if_neg hz] at h
          rcases skip_next ys with h2 | h2
          · exact absurd (HZ.out.symm.trans h2) hz
          · rw [HZ.out] at h2
            exact (token_less HS3.out.1.good hz h2.1 h2.2 h).1
        have hsuf := (skip_suf ys).len
        rw [HZ.out] at hsuf
        have hll := hl.2
        have hm := HA.out.said
        have ht : tokenM (s.size - (enc (skipM ys)).length) (skipM ys) = .ok (t, r) := by
          have h := HMM.out
          rw [tokM, if_neg hz] at h
          rw [HZ.out, HNN.out, h]
        rw [tokensL_go (by rw [HZ.out]; exact hz) ht] at hm
        have hfu := HA.out.fuel
        have hfe := HA.out.few
        refine ⟨⟨f, r, us', F', ts ++ [t], hr7, hsg7, hrow7, hap7, hb7, hm, by omega, by simp only [List.length_append, List.length_singleton]; omega⟩, ?_⟩
        rw [hr7.lenAt, HA.out.rd.lenAt]
        omega

/-- A text that is too long. -/
theorem tokens_long (s : ByteArray) (w : World) (hs : 2000 < s.size) :
    Calls Tryd.prog 8 #[.string s] w fun e w' => e = .returned (.tuple #[zeroV, .int .i64 0, .int .i64 3]) ∧ Below w.heap.size w w' := by
  have hsi : (2000 : Int) < (s.size : Int) := by omega
  clear hs
  go_enter Tryd.func8, Tryd.ntmps8
  go_wp2_with fail
  go_ret3
  exact ⟨rfl, Below.refl _ _⟩

/-- What is no text. -/
theorem tokens_bad (s : ByteArray) (w : World) (hs : s.size ≤ 2000) (ht : isText s = false) :
    Calls Tryd.prog 8 #[.string s] w fun e w' => e = .returned (.tuple #[zeroV, .int .i64 ((place s : Nat) : Int), .int .i64 2]) ∧ Below w.heap.size w w' := by
  have HV := Lib.hid (show _ from by have := valid_any s w; rw [ht] at this; exact this)
  have hsi : ¬ (2000 : Int) < (s.size : Int) := by omega
  obtain ⟨P, hP⟩ : ∃ P : Int, (place s : Int) = P := ⟨_, rfl⟩
  rw [hP] at HV ⊢
  clear hs ht hP
  go_enter Tryd.func8, Tryd.ntmps8
  go_wp2_with fail
  refine HV.out.mono ?_
  rintro e w1 ⟨rfl, hb1⟩
  have H1 := Lib.hid hb1
  clear hb1
  go_wp2_with fail
  go_ret3
  exact ⟨rfl, H1.out⟩
end Go.Proofs.YtpifbpfmjmcchaaDoor
