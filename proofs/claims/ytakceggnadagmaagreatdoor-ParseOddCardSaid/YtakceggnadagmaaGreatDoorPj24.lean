/-
  Proved: texts joined: Proved: the contract of a parser's command, whatever lies within it. Conditions: the reader lies in memory.
  Proved: the contract of a parser's script. Conditions: the reader lies in memory.
  Proved: how a reader's letters and a row of parts that is made lie in memory, and what keeps them there. Conditions: as each says.
  Proved: contracts of a reader's next, at, take and takes. Conditions: the reader lies in memory.
-/
import Derived.Test.YtakceggnadagmaaGreatDoorPj23
import Derived.Test.YtakceggnadagmaaGreatDoorPj03
import Derived.Test.YtakceggnadagmaaGreatDoorPj05
import Derived.Test.YtakceggnadagmaaGreatDoorPj04
import Derived.Lib.OthersKept
namespace Go.Proofs.YtakceggnadagmaaGreatDoor
open Go Go.RowKit GlyphMath LexMath TreeMath ParseMath

theorem dead_isFun {S : PS} (h : GoodS S) (hd : Dead S) : S.isFun = false := by
  unfold PS.isFun PS.isName
  rw [h.tx3 (Dead.kind h hd), nameT_nil]
  rfl
theorem dead_compound {cmd br : Do} {S : PS} (h : GoodS S) (hd : Dead S) : compoundM cmd br S = none := by
  unfold compoundM
  simp only [Dead.is h hd (s := [123]) (by decide), Dead.is h hd (s := [40]) (by decide), Dead.is h hd (s := [105, 102]) (by decide), Dead.is h hd (s := [119, 104, 105, 108, 101]) (by decide),
    Dead.is h hd (s := [117, 110, 116, 105, 108]) (by decide), Dead.is h hd (s := [102, 111, 114]) (by decide), Dead.is h hd (s := [99, 97, 115, 101]) (by decide), Bool.false_eq_true, if_false]
theorem dead_none {S : PS} (h : GoodS S) (hd : Dead S) : ∀ s ∈ [[123], [40], [105, 102], [119, 104, 105, 108, 101], [117, 110, 116, 105, 108], [102, 111, 114], [99, 97, 115, 101]], S.is s = false := fun s hs => Dead.is h hd (by
  rintro rfl
  simp at hs)
theorem plist_of {w0 : World} {cmd : Do} {d : Nat} (hok : DoOk cmd) (hc : CallDo w0 130 cmd d) : CallDo w0 44 (listM cmd) d := plist_any hok (pandor_any hok (ppipe_any hok hc))
theorem pcompound_any {w0 w : World} {X : Nat} {S : PS} {cmd br : Do} {d : Nat} (hd : d ≤ 100) (hok : DoOk cmd) (hc : CallDo w0 44 (listM cmd) (d + 1)) (hb : CallDoR w0 185 (branchM cmd br) d) (h : Pr w0 w X S) :
    Calls Tryz.prog 156 #[.pointer (some ⟨X, 0, none⟩), .int .i64 (d : Int)] w fun e w' => CoEnd w0 w w' e X S (compoundM cmd br S) := by
  unfold compoundM
  cases h1 : S.is [123] with
  | true => simpa using pcompound_brace hd hc h h1
  | false =>
  cases h2 : S.is [40] with
  | true => simpa using pcompound_paren hd hc h h2
  | false =>
  cases h3 : S.is [105, 102] with
  | true => simpa using pcompound_if hb h h3
  | false =>
  cases h4 : S.is [119, 104, 105, 108, 101] with
  | true => simpa using pcompound_while hd hc h h4
  | false =>
  cases h5 : S.is [117, 110, 116, 105, 108] with
  | true => simpa using pcompound_until hd hc h h5
  | false =>
  cases h6 : S.is [102, 111, 114] with
  | true => simpa using pcompound_for (peach_any (pbody_any hd hc)) h h6
  | false =>
  cases h7 : S.is [99, 97, 115, 101] with
  | true => simpa using pcompound_case (pchoice_any hd hok hc) h h7
  | false => simpa using pcompound_none d h (by simp [h1, h2, h3, h4, h5, h6, h7])
/-- So many commands may still be within one another. -/
structure LvOk (w0 : World) (k d : Nat) : Prop where
  cmd : CallDo w0 130 (lv k).cmd d
  br : 1 ≤ k → CallDoR w0 185 (lv k).br d
  held : CallDo w0 183 (lv k).held d
theorem lv0_ok (w0 : World) : LvOk w0 0 20 := by
  refine ⟨fun w X S h => ?_, fun h => absurd h (by decide), fun w X S h => ?_⟩
  · have hg := (to_fail h.good (e := 3) (by decide)).good
    have hd : Dead (S.fail 3) := fail_one h.good 3
    have := pcommand_any (S0 := S.fail 3) (d := 20) (fn := fun S => (tr0, S)) (m := none) h (by simp) (fun hf => absurd hf (by rw [dead_isFun hg hd]; decide)) (fun W hW => pcompound_none 20 hW (dead_none hg hd))
    rw [cmdAt, if_neg (by rw [dead_isFun hg hd]; decide)] at this
    exact this
  · have hg := (to_fail h.good (e := 3) (by decide)).good
    have hd : Dead (S.fail 3) := fail_one h.good 3
    have hg2 := (to_fail hg (e := 2) (by decide)).good
    have hd2 : Dead ((S.fail 3).fail 2) := fail_one hg 2
    have := pheld_any (S0 := S.fail 3) (S1 := (S.fail 3).fail 2) (d := 20) (m := none) h (by simp) (by simp [Dead.is hg hd (s := [123]) (by decide), Dead.is hg hd (s := [40]) (by decide)]) (fun W hW => pcompound_none 20 hW (dead_none hg2 hd2))
    have e : (S.fail 3).fail 2 = S.fail 3 := by
      have e1 : (S.fail 3).err ≠ 0 := by unfold PS.fail; split <;> simp_all
      generalize hT : S.fail 3 = T at *
      unfold PS.fail
      rw [if_neg e1, if_neg e1]
      unfold Dead at hd
      cases T
      simp_all
    rw [heldAt, e] at this
    exact this
theorem lv_ok (w0 : World) : ∀ k d, k + d = 20 → LvOk w0 k d
  | 0, d, hk => by
    obtain rfl : d = 20 := by omega
    exact lv0_ok w0
  | k + 1, d, hk => by
    have ih := lv_ok w0 k (d + 1) (by omega)
    have hok := (to_lv k).1
    have hl := plist_of hok ih.cmd
    have hd : d ≤ 100 := by omega
    have hb : CallDoR w0 185 (branchM (lv k).cmd (lv k).br) d := pbranch_any hd hok hl (fun S hS hi => by
      cases k with
      | zero => exact absurd hi (by rw [Dead.is (to_list hok S hS).good (list0_dead hS) (by decide)]; decide)
      | succ k => exact (ih.br (by omega)).plain)
    refine ⟨fun w X S h => ?_, fun _ => hb, fun w X S h => ?_⟩
    · have := pcommand_any (S0 := S) (d := d) (fn := funM (lv k).held) (m := compoundM (lv k).cmd (lv k).br S) h (by rw [if_neg (by omega)]) (fun _ => pfun_any hd ih.held) (fun W hW => pcompound_any hd hok hl hb hW)
      exact this
    · cases h1 : S.is [123] || S.is [40] with
      | true =>
        have := pheld_any (S0 := S) (S1 := S) (d := d) (m := compoundM (lv k).cmd (lv k).br S) h (by rw [if_neg (by omega)]) (by rw [h1]; rfl) (fun W hW => pcompound_any hd hok hl hb hW)
        have e : heldAt (compoundM (lv k).cmd (lv k).br S) S = heldM (lv k).cmd S := by
          unfold compoundM heldM
          cases h2 : S.is [123] with
          | true => rfl
          | false =>
            rw [h2, Bool.false_or] at h1
            rw [h1]
            rfl
        rw [e] at this
        exact this
      | false =>
        have hg := (to_fail h.good (e := 2) (by decide)).good
        have hd2 : Dead (S.fail 2) := fail_one h.good 2
        have := pheld_any (S0 := S) (S1 := S.fail 2) (d := d) (m := none) h (by rw [if_neg (by omega)]) (by rw [h1]; rfl) (fun W hW => pcompound_none d hW (dead_none hg hd2))
        have e : heldAt none (S.fail 2) = heldM (lv k).cmd S := by
          rw [Bool.or_eq_false_iff] at h1
          unfold heldM
          rw [h1.1, h1.2]
          rfl
        rw [e] at this
        exact this
theorem plist20 (w0 : World) : CallDo w0 44 (listM (lv 20).cmd) 0 := plist_of (to_lv 20).1 (lv_ok w0 20 0 rfl).cmd
end Go.Proofs.YtakceggnadagmaaGreatDoor

namespace Go.Proofs.YtakceggnadagmaaGreatDoor
open Go Go.RowKit GlyphMath LexMath TreeMath ParseMath

set_option maxHeartbeats 8000000 in
set_option maxRecDepth 10000 in
theorem pscript_any {w0 w : World} {X : Nat} {S : PS} (h : Pr w0 w X S) :
    Calls Tryz.prog 19 #[.pointer (some ⟨X, 0, none⟩)] w fun e w' => TrEnd w0 w w' e X (scriptM S) := by
  have HX := Lib.hid h.base
  have HP := Lib.hid (h.new (below_new w ZN))
  obtain ⟨r, hr⟩ : ∃ r, listM (lv 20).cmd S = r := ⟨_, rfl⟩
  have HL := Lib.hid (show Calls Tryz.prog 44 #[.pointer (some ⟨X, 0, none⟩), .int .i64 0] (w.alloc ZN) fun e w' => TrEnd w0 (w.alloc ZN) w' e X r from hr ▸ plist20 w0 (w.alloc ZN) X S (h.new (below_new w ZN)))
  have HN := Lib.hid (fun W (hW : Pr w0 W X r.2) => pnext_any hW)
  have HF := Lib.hid (fun W (hW : Pr w0 W X r.2) => pfail_any hW 2 (by decide))
  have HM := Lib.hid (show scriptM S = (r.1, r.2.want (r.2.hd.kind == 3)) from by rw [← hr]; rfl)
  clear h hr
  unfold tkV at HN
  obtain ⟨t, ht⟩ : ∃ t, r.2.hd = t := ⟨_, rfl⟩
  rw [ht] at HN HM
  obtain ⟨kd, hkd⟩ : ∃ x, t.kind = x := ⟨_, rfl⟩
  obtain ⟨tx, htx⟩ : ∃ x, T t.text = x := ⟨_, rfl⟩
  obtain ⟨wl, hwl⟩ : ∃ x, t.word.length = x := ⟨_, rfl⟩
  obtain ⟨at_, hat⟩ : ∃ x : Int, (t.at_ : Int) = x := ⟨_, rfl⟩
  rw [hkd] at HM
  simp only [hkd, htx, hwl, hat] at HN
  clear ht hkd htx hwl hat
  obtain ⟨S1, hS1⟩ : ∃ S1, r.2 = S1 := ⟨_, rfl⟩
  obtain ⟨t1, ht1⟩ : ∃ t1, r.1 = t1 := ⟨_, rfl⟩
  obtain ⟨M, hM⟩ : ∃ M, scriptM S = M := ⟨_, rfl⟩
  have HL2 := Lib.hid (show Calls Tryz.prog 44 #[.pointer (some ⟨X, 0, none⟩), .int .i64 0] (w.alloc ZN) fun e w' => TrEnd w0 (w.alloc ZN) w' e X (t1, S1) from by rw [← hS1, ← ht1]; exact HL.out)
  rw [hS1] at HN HF HM
  rw [ht1] at HM
  rw [hM] at HM ⊢
  clear HL hS1 ht1 hM
  cases hk : kd == 3 with
  | true =>
    have HE := Lib.hid (show M = (t1, S1) from by rw [HM.out, hk]; rfl)
    have HK := Lib.hid (show (kd != 3) = false from by rw [bne, hk]; rfl)
    clear HM hk
    go_enter Tryz.func19, Tryz.ntmps19
    go_wp2_with (first
      | (go_at_call 44; refine HL2.out.mono ?_; rintro en w2 ⟨c, rfl, hcel, hnew, hs⟩; have HS2 := Lib.hid (And.intro hcel (And.intro hnew (And.intro hs (And.intro (hs.2.heap (heap_alloc_new w ZN) (by have := HX.out; omega)) ((Kept.of_below (D := fun k => k = X) (below_new w ZN)).on hs.2))))); clear hcel hnew hs)
      | (refine wpList_store_row (by rfl) 56 (.tmp 3) (.tmp 5) (by rfl) w2.heap.size c.toArray (by rfl) (by rfl) 56 zeroN.toArray (heap_alloc_new w2 _) (by rw [node_info]; simp [HS2.out.1.1]) (by simp [HS2.out.1.1, zeroN, ofC]) (all_oneCell_toArray HS2.out.1.2) ?_; rw [World.setRow_alloc_new]; obtain ⟨F, hA⟩ := AdO.make (w := w) HS2.out.1 HS2.out.2.1 (by have := (Array.getElem?_eq_some_iff.1 HS2.out.2.2.2.1).1; have := HX.out; simp) HS2.out.2.2.1.1 HS2.out.2.2.2.1 HS2.out.2.2.2.2; obtain ⟨w3, hw3⟩ : ∃ w3, w3 = w2.alloc (.cells c.toArray 56) := ⟨_, rfl⟩; rw [← hw3] at hA ⊢; have HA := Lib.hid hA; clear hA hw3)
      | (go_at_call 45; (with_reducible refine (HN.out _ HA.out.pr).mono ?_); rintro en w4 ⟨p, k, rfl, -, hb4⟩; have HS4 := Lib.hid (HA.out.new HX.out.2 hb4); have qf := tok_f0 kd at_ tx p wl k; have qk := HK.out; clear hb4)
      | (refine wpList_load_row (by rfl) 56 (.tmp 3) (by rfl) w2.heap.size (by rfl) 56 c.toArray (0, 0) _ HS4.out.box Tryz.underlying56 rfl (by rw [node_info]; simp [HS2.out.1.1]) ?_)
      | (refine wpList_store_row (by rfl) 56 (.tmp 2) (.tmp 12) (by rfl) w.heap.size c.toArray (by rfl) (by rfl) 56 zeroN.toArray HS4.out.zero (by rw [node_info]; simp [HS2.out.1.1]) (by simp [HS2.out.1.1, zeroN, ofC]) (all_oneCell_toArray HS2.out.1.2) ?_))
    (try simp only [Exit.inBlock, Exit.then])
    refine bodyPost_ret (ret_tree rfl (setRow_heap w4 w.heap.size zeroN.toArray _ 56 (0, 0) HS4.out.zero) HS2.out.1 rfl) rfl ?_
    rw [HE.out]
    exact HS4.out.ret HX.out.2 HX.out.1
  | false =>
    have HE := Lib.hid (show M = (t1, S1.fail 2) from by rw [HM.out, hk]; rfl)
    have HK := Lib.hid (show (kd != 3) = true from by rw [bne, hk]; rfl)
    clear HM hk
    go_enter Tryz.func19, Tryz.ntmps19
    go_wp2_with (first
      | (go_at_call 44; refine HL2.out.mono ?_; rintro en w2 ⟨c, rfl, hcel, hnew, hs⟩; have HS2 := Lib.hid (And.intro hcel (And.intro hnew (And.intro hs (And.intro (hs.2.heap (heap_alloc_new w ZN) (by have := HX.out; omega)) ((Kept.of_below (D := fun k => k = X) (below_new w ZN)).on hs.2))))); clear hcel hnew hs)
      | (refine wpList_store_row (by rfl) 56 (.tmp 3) (.tmp 5) (by rfl) w2.heap.size c.toArray (by rfl) (by rfl) 56 zeroN.toArray (heap_alloc_new w2 _) (by rw [node_info]; simp [HS2.out.1.1]) (by simp [HS2.out.1.1, zeroN, ofC]) (all_oneCell_toArray HS2.out.1.2) ?_; rw [World.setRow_alloc_new]; obtain ⟨F, hA⟩ := AdO.make (w := w) HS2.out.1 HS2.out.2.1 (by have := (Array.getElem?_eq_some_iff.1 HS2.out.2.2.2.1).1; have := HX.out; simp) HS2.out.2.2.1.1 HS2.out.2.2.2.1 HS2.out.2.2.2.2; obtain ⟨w3, hw3⟩ : ∃ w3, w3 = w2.alloc (.cells c.toArray 56) := ⟨_, rfl⟩; rw [← hw3] at hA ⊢; have HA := Lib.hid hA; clear hA hw3)
      | (go_at_call 45; (with_reducible refine (HN.out _ HA.out.pr).mono ?_); rintro en w4 ⟨p, k, rfl, -, hb4⟩; have HS4 := Lib.hid (HA.out.new HX.out.2 hb4); have qf := tok_f0 kd at_ tx p wl k; have qk := HK.out; clear hb4)
      | (go_at_call 46; refine (HF.out _ HS4.out.pr).mono ?_; rintro en w5 ⟨rfl, hs⟩; have HS5 := Lib.hid (HS4.out.step HX.out.2 hs); clear hs)
      | (refine wpList_load_row (by rfl) 56 (.tmp 3) (by rfl) w2.heap.size (by rfl) 56 c.toArray (0, 0) _ HS5.out.box Tryz.underlying56 rfl (by rw [node_info]; simp [HS2.out.1.1]) ?_)
      | (refine wpList_store_row (by rfl) 56 (.tmp 2) (.tmp 12) (by rfl) w.heap.size c.toArray (by rfl) (by rfl) 56 zeroN.toArray HS5.out.zero (by rw [node_info]; simp [HS2.out.1.1]) (by simp [HS2.out.1.1, zeroN, ofC]) (all_oneCell_toArray HS2.out.1.2) ?_))
    (try simp only [Exit.inBlock, Exit.then])
    refine bodyPost_ret (ret_tree rfl (setRow_heap w5 w.heap.size zeroN.toArray _ 56 (0, 0) HS5.out.zero) HS2.out.1 rfl) rfl ?_
    rw [HE.out]
    exact HS5.out.ret HX.out.2 HX.out.1
end Go.Proofs.YtakceggnadagmaaGreatDoor

namespace Go.Proofs.YtakceggnadagmaaGreatDoor
open Go Go.RowKit GlyphMath LexMath

/-! ### A reader -/
/-- The letters that are left, and the end, as cells. -/
def lcells (sz : Nat) : List Nat → List Value
  | [] => [.int .i32 0, .int .i64 (sz : Int)]
  | c :: r => .int .i32 (c : Int) :: .int .i64 ((sz - (enc (c :: r)).length : Nat) : Int) :: lcells sz r
theorem lcells_drop (sz : Nat) : ∀ (k : Nat) (xs : List Nat), k ≤ xs.length → (lcells sz xs).drop (2 * k) = lcells sz (xs.drop k)
  | 0, _, _ => rfl
  | k + 1, [], h => by simp at h
  | k + 1, c :: r, h => by
    rw [show 2 * (k + 1) = 2 * k + 2 by omega]
    simp only [lcells, List.drop_succ_cons]
    exact lcells_drop sz k r (by simpa using h)
theorem lcells_next (sz : Nat) (xs : List Nat) : (lcells sz xs)[0]? = some (.int .i32 (next xs : Int)) := by cases xs <;> rfl
theorem lcells_at (sz : Nat) (xs : List Nat) : (lcells sz xs)[1]? = some (.int .i64 ((sz - (enc xs).length : Nat) : Int)) := by cases xs <;> rfl

/-- The letters that are left lie in block G, the reader in block X. -/
structure RdO (w : World) (X G sz o c : Nat) (xs : List Nat) : Prop where
  head : w.heap[X]? = some (.cells #[.slice (some ⟨G, o, none⟩) (xs.length + 1) c] 123 (0, 0))
  cap : xs.length + 1 ≤ c
  row : w.rangeAt G o (lcells sz xs)
  ne : X ≠ G
  good : ∀ x ∈ xs, GoodL x
  few : xs.length ≤ 2000
def Rd (w : World) (X G sz : Nat) (xs : List Nat) : Prop := ∃ o c, RdO w X G sz o c xs


theorem RdO.cell0 {w : World} {X G sz o c : Nat} {xs : List Nat} (h : RdO w X G sz o c xs) : w.cell? ⟨X, 0, none⟩ = some (.slice (some ⟨G, o, none⟩) (xs.length + 1) c) := by rw [cell_plain h.head]; rfl
theorem RdO.frozen0 {w : World} {X G sz o c : Nat} {xs : List Nat} (h : RdO w X G sz o c xs) : w.frozen? ⟨X, 0, none⟩ = false := frozen_plain h.head 0
theorem RdO.next0 {w : World} {X G sz o c : Nat} {xs : List Nat} (h : RdO w X G sz o c xs) : w.cell? ⟨G, o, none⟩ = some (.int .i32 (next xs : Int)) := by
  simpa using h.row 0 _ (lcells_next sz xs)
theorem RdO.at0 {w : World} {X G sz o c : Nat} {xs : List Nat} (h : RdO w X G sz o c xs) : w.cell? ⟨G, o + 1, none⟩ = some (.int .i64 ((sz - (enc xs).length : Nat) : Int)) := h.row 1 _ (lcells_at sz xs)
theorem RdO.letter {w : World} {X G sz o c : Nat} {xs : List Nat} (h : RdO w X G sz o c xs) (k : Nat) (hk : k ≤ xs.length) : w.cell? ⟨G, o + k * 2, none⟩ = some (.int .i32 (next (xs.drop k) : Int)) := by
  have e : (lcells sz xs)[k * 2]? = some (.int .i32 (next (xs.drop k) : Int)) := by
    rw [← lcells_next sz, ← lcells_drop sz k xs hk, List.getElem?_drop, Nat.mul_comm, Nat.add_zero]
  exact h.row _ _ e
theorem next_lt0 {xs : List Nat} (h : ∀ x ∈ xs, GoodL x) : next xs = 0 ∨ GoodL (next xs) := by
  cases xs with
  | nil => exact .inl rfl
  | cons a r => exact .inr (h a (by simp))

/-- Some letters are passed. -/
theorem RdO.drop {w : World} {X G sz o c : Nat} {xs : List Nat} (h : RdO w X G sz o c xs) (k : Nat) (hk : k ≤ xs.length) :
    RdO (w.setCell ⟨X, 0, none⟩ (.slice (some ⟨G, o + k * 2, none⟩) ((xs.drop k).length + 1) (c - k))) X G sz (o + k * 2) (c - k) (xs.drop k) := by
  refine ⟨heap_set_one h.head _, ?_, fun j v hj => ?_, h.ne, fun x hx => h.good x (List.mem_of_mem_drop hx), by have := h.few; simp; omega⟩
  · have := h.cap; simp; omega
  · rw [← lcells_drop sz k xs hk, List.getElem?_drop] at hj
    rw [World.cell?_of_block (Below.heap_setCell _ _ _ _ (fun e => h.ne e.symm)), Nat.add_assoc, Nat.mul_comm]
    exact h.row _ _ hj
theorem RdO.kept {D : Nat → Prop} {w w' : World} {X G sz o c : Nat} {xs : List Nat} (h : RdO w X G sz o c xs) (hk : Kept D w w') (hX : ¬ D X) (hG : ¬ D G) : RdO w' X G sz o c xs :=
  ⟨hk.heap h.head hX, h.cap, fun j v hj => hk.cell (h.row j v hj) hG, h.ne, h.good, h.few⟩
theorem Rd.kept {D : Nat → Prop} {w w' : World} {X G sz : Nat} {xs : List Nat} (h : Rd w X G sz xs) (hk : Kept D w w') (hX : ¬ D X) (hG : ¬ D G) : Rd w' X G sz xs := by
  obtain ⟨o, c, h⟩ := h
  exact ⟨o, c, h.kept hk hX hG⟩
theorem Rd.good {w : World} {X G sz : Nat} {xs : List Nat} (h : Rd w X G sz xs) : ∀ x ∈ xs, GoodL x := by
  obtain ⟨o, c, h⟩ := h
  exact h.good
theorem Rd.few {w : World} {X G sz : Nat} {xs : List Nat} (h : Rd w X G sz xs) : xs.length ≤ 2000 := by
  obtain ⟨o, c, h⟩ := h
  exact h.few
theorem Rd.ne {w : World} {X G sz : Nat} {xs : List Nat} (h : Rd w X G sz xs) : X ≠ G := by
  obtain ⟨o, c, h⟩ := h
  exact h.ne
theorem Rd.lt {w : World} {X G sz : Nat} {xs : List Nat} (h : Rd w X G sz xs) : X < w.heap.size ∧ G < w.heap.size := by
  obtain ⟨o, c, h⟩ := h
  exact ⟨(Array.getElem?_eq_some_iff.1 h.head).1, World.block_lt_of_cell? w _ h.next0⟩

/-- A row of parts that is being made, in block W, all of it at B and above. -/
structure RowO (w : World) (B W : Nat) (v : Value) (vs : List Value) (F : Nat → Prop) (ps : List Pt) : Prop where
  head : w.heap[W]? = some (.cells #[v] 151 (0, 0))
  base : B ≤ W
  own : w.ownsRow B 113 5 v ps.length (rowCells ps vs)
  len : ps.length = vs.length
  sub : ∀ (j : Nat) (p : Pt) (u : Value), ps[j]? = some p → vs[j]? = some u → WordV w F u p.word
  far : ∀ g, F g → B ≤ g ∧ g < w.heap.size ∧ g ≠ W ∧ v.ownBlock ≠ some g
  ne : v.ownBlock ≠ some W
def RowAt (w : World) (B W : Nat) (ps : List Pt) : Prop := ∃ v vs F, RowO w B W v vs F ps

theorem RowO.cell0 {w : World} {B W : Nat} {v : Value} {vs : List Value} {F : Nat → Prop} {ps : List Pt} (h : RowO w B W v vs F ps) : w.cell? ⟨W, 0, none⟩ = some v := by rw [cell_plain h.head]; rfl
theorem RowO.frozen0 {w : World} {B W : Nat} {v : Value} {vs : List Value} {F : Nat → Prop} {ps : List Pt} (h : RowO w B W v vs F ps) : w.frozen? ⟨W, 0, none⟩ = false := frozen_plain h.head 0
theorem RowO.lt {w : World} {B W : Nat} {v : Value} {vs : List Value} {F : Nat → Prop} {ps : List Pt} (h : RowO w B W v vs F ps) : W < w.heap.size := (Array.getElem?_eq_some_iff.1 h.head).1
theorem RowO.kept {D : Nat → Prop} {w w' : World} {B W : Nat} {v : Value} {vs : List Value} {F : Nat → Prop} {ps : List Pt} (h : RowO w B W v vs F ps) (hk : Kept D w w') (hD : ∀ k, B ≤ k → k < w.heap.size → ¬ D k) : RowO w' B W v vs F ps where
  head := hk.heap h.head (hD W h.base h.lt)
  base := h.base
  own := ownsRow_same h.own fun g hg => hk.block g (World.ownsRow.lt h.own g hg).2 (hD g (World.ownsRow.lt h.own g hg).1 (World.ownsRow.lt h.own g hg).2)
  len := h.len
  sub := fun j p u hp hu => (h.sub j p u hp hu).same fun g hg => hk.block g (h.far g hg).2.1 (hD g (h.far g hg).1 (h.far g hg).2.1)
  far := fun g hg => ⟨(h.far g hg).1, Nat.lt_of_lt_of_le (h.far g hg).2.1 hk.size, (h.far g hg).2.2⟩
  ne := h.ne
theorem RowAt.kept {D : Nat → Prop} {w w' : World} {B W : Nat} {ps : List Pt} (h : RowAt w B W ps) (hk : Kept D w w') (hD : ∀ k, B ≤ k → k < w.heap.size → ¬ D k) : RowAt w' B W ps := by
  obtain ⟨v, vs, F, h⟩ := h
  exact ⟨v, vs, F, h.kept hk hD⟩
theorem RowAt.lt {w : World} {B W : Nat} {ps : List Pt} (h : RowAt w B W ps) : B ≤ W ∧ W < w.heap.size := by
  obtain ⟨v, vs, F, h⟩ := h
  exact ⟨h.base, h.lt⟩
/-- A new row. -/
theorem RowAt.new (w : World) : RowAt (w.alloc (.cells #[.slice none 0 0] 151)) w.heap.size w.heap.size [] :=
  ⟨_, [], fun _ => False, ⟨heap_alloc_new w _, Nat.le_refl _, World.ownsRow_nil _ _ _ _, rfl, fun _ _ _ h => by simp at h, fun _ h => h.elim, by simp [Value.ownBlock]⟩⟩
/-- What is made is a word. -/
theorem RowO.word {w : World} {B W : Nat} {v : Value} {vs : List Value} {F : Nat → Prop} {ps : List Pt} (h : RowO w B W v vs F ps) : WordN w B v ps :=
  ⟨fun g => F g ∨ v.ownBlock = some g, .row v ps vs (ownsRow_base h.own fun _ _ => Nat.zero_le _) h.len (fun _ hg => .inr hg) (fun j p u hp hu => (h.sub j p u hp hu).mono fun _ h => .inl h), fun g hg => hg.elim (fun hg => ⟨(h.far g hg).1, (h.far g hg).2.1⟩) fun hg => World.ownsRow.lt h.own g hg⟩
end Go.Proofs.YtakceggnadagmaaGreatDoor

namespace Go.Proofs.YtakceggnadagmaaGreatDoor
open Go Go.RowKit GlyphMath LexMath

theorem next_any {w : World} {X G sz : Nat} {xs : List Nat} (h : Rd w X G sz xs) :
    Calls Tryz.prog 72 #[.pointer (some ⟨X, 0, none⟩)] w fun e w' => e = .returned (.int .i32 (next xs : Int)) ∧ w = w' := by
  obtain ⟨o, c, h⟩ := h
  have c0 := h.cell0
  have c1 := h.next0
  obtain ⟨N, hN⟩ : ∃ N, xs.length + 1 = N := ⟨_, rfl⟩
  rw [hN] at c0
  have hN0 : (0 : Int) < (N : Int) := by omega
  clear hN h
  go_enter Tryz.func72, Tryz.ntmps72
  go_wp2_with fail
  go_ret
  exact ⟨rfl, rfl⟩
theorem at_any {w : World} {X G sz : Nat} {xs : List Nat} (h : Rd w X G sz xs) :
    Calls Tryz.prog 42 #[.pointer (some ⟨X, 0, none⟩)] w fun e w' => e = .returned (.int .i64 ((sz - (enc xs).length : Nat) : Int)) ∧ w = w' := by
  obtain ⟨o, c, h⟩ := h
  have c0 := h.cell0
  have c1 := h.at0
  obtain ⟨N, hN⟩ : ∃ N, xs.length + 1 = N := ⟨_, rfl⟩
  obtain ⟨A, hA⟩ : ∃ A, (sz - (enc xs).length : Nat) = A := ⟨_, rfl⟩
  rw [hN] at c0
  rw [hA] at c1 ⊢
  have hN0 : (0 : Int) < (N : Int) := by omega
  clear hN h hA
  go_enter Tryz.func42, Tryz.ntmps42
  go_wp2_with fail
  go_ret
  exact ⟨rfl, rfl⟩

/-- A step of a reader: nothing else has turned. -/
def RStep (w w' : World) (X G sz : Nat) (xs : List Nat) : Prop := Rd w' X G sz xs ∧ Kept (fun k => k = X) w w'

theorem take_any {w : World} {X G sz : Nat} {xs : List Nat} (h : Rd w X G sz xs) :
    Calls Tryz.prog 97 #[.pointer (some ⟨X, 0, none⟩)] w fun e w' => e = .returned (.int .i32 (next xs : Int)) ∧ RStep w w' X G sz xs.tail := by
  have HN := Lib.hid (next_any h)
  obtain ⟨o, c, h⟩ := h
  cases xs with
  | nil =>
    have HH := Lib.hid h
    clear h
    go_enter Tryz.func97, Tryz.ntmps97
    go_wp2_with (go_at_call 72; refine HN.out.mono ?_; rintro e w1 ⟨rfl, rfl⟩; simp only [next])
    go_ret
    exact ⟨rfl, ⟨o, c, HH.out⟩, Kept.refl _ _⟩
  | cons x r =>
    have c0 := h.cell0
    have f0 := h.frozen0
    have hd := h.drop 1 (by simp)
    simp only [List.drop_succ_cons, List.drop_zero, Nat.one_mul] at hd
    have hx : ((x : Int) != 0) = true := by
      have := (h.good x (by simp)).1
      have : ¬ (x : Int) = 0 := by omega
      simpa using this
    have hc := h.cap
    simp only [List.length_cons] at c0 hc
    obtain ⟨N, hN⟩ : ∃ N, r.length + 1 + 1 = N := ⟨_, rfl⟩
    rw [hN] at c0 hc
    have h1 : (1 : Int) ≤ (N : Int) := by omega
    have h2 : (N : Int) ≤ (c : Int) := by omega
    have h3 : (1 : Int) < (c : Int) := by omega
    have h4 : (c - 1 == 0) = false := by
      have : ¬ c - 1 = 0 := by omega
      simpa using this
    have HD := Lib.hid hd
    have HE := Lib.hid (show N - 1 = r.length + 1 by omega)
    clear h hd hN hc
    go_enter Tryz.func97, Tryz.ntmps97
    go_wp2_with (go_at_call 72; refine HN.out.mono ?_; rintro e w1 ⟨rfl, rfl⟩; simp only [next])
    go_ret
    exact ⟨rfl, ⟨o + 2, c - 1, by rw [HE.out]; exact HD.out⟩, Kept.setCell (D := fun k => k = X) (Kept.refl _ _) (.inl rfl) _⟩

theorem RStep.refl {w : World} {X G sz : Nat} {xs : List Nat} (h : Rd w X G sz xs) : RStep w w X G sz xs := ⟨h, Kept.refl _ _⟩
theorem RStep.trans {w w1 w2 : World} {X G sz : Nat} {xs ys : List Nat} (h : RStep w w1 X G sz xs) (k : RStep w1 w2 X G sz ys) : RStep w w2 X G sz ys := ⟨k.1, h.2.on k.2⟩
theorem RStep.below {w w1 w2 : World} {X G sz : Nat} {xs : List Nat} (h : RStep w w1 X G sz xs) (k : Below w1.heap.size w1 w2) : RStep w w2 X G sz xs :=
  ⟨h.1.kept (D := fun _ => False) (Kept.of_below k) (fun h => h) (fun h => h), h.2.on (Kept.of_below k)⟩
theorem Rd.below {w w' : World} {X G sz : Nat} {xs : List Nat} (h : Rd w X G sz xs) (k : Below w.heap.size w w') : Rd w' X G sz xs :=
  h.kept (D := fun _ => False) (Kept.of_below k) (fun h => h) (fun h => h)

theorem takes_step (ps xs : List Nat) (k : Nat) (c : Nat) (hk : ps[k]? = some c) (h0 : c ≠ 0) :
    (next (xs.drop k) = c → takes (ps.drop k) (xs.drop k) = takes (ps.drop (k + 1)) (xs.drop (k + 1)) ∧ k < xs.length) ∧ (next (xs.drop k) ≠ c → takes (ps.drop k) (xs.drop k) = none) := by
  have e : ps.drop k = c :: ps.drop (k + 1) := by
    obtain ⟨h1, h2⟩ := List.getElem?_eq_some_iff.1 hk
    rw [List.drop_eq_getElem_cons h1, h2]
  rw [e]
  by_cases hx : k < xs.length
  · rw [List.drop_eq_getElem_cons hx]
    simp only [next]
    refine ⟨fun h => ⟨?_, hx⟩, fun h => ?_⟩
    · rw [show takes (c :: ps.drop (k + 1)) (xs[k] :: xs.drop (k + 1)) = if c = xs[k] then takes (ps.drop (k + 1)) (xs.drop (k + 1)) else none from rfl, if_pos h.symm]
    · rw [show takes (c :: ps.drop (k + 1)) (xs[k] :: xs.drop (k + 1)) = if c = xs[k] then takes (ps.drop (k + 1)) (xs.drop (k + 1)) else none from rfl, if_neg (fun h' => h h'.symm)]
  · rw [List.drop_eq_nil_of_le (by omega)]
    refine ⟨fun h => absurd h.symm h0, fun _ => rfl⟩

set_option maxHeartbeats 1000000 in
theorem takes_any (p : ByteArray) (ps : List Nat) (hp : p.data.toList.map (·.toNat) = ps) (hlow : ∀ b ∈ p.data.toList, 0 < b.toNat ∧ b.toNat < 128) {w : World} {X G sz : Nat} {xs : List Nat} (h : Rd w X G sz xs) :
    Calls Tryz.prog 99 #[.pointer (some ⟨X, 0, none⟩), .string p] w fun e w' => e = .returned (.bool (takes ps xs).isSome) ∧ RStep w w' X G sz ((takes ps xs).getD xs) := by
  obtain ⟨o, c, h⟩ := h
  have HH := Lib.hid h
  have HP := Lib.hid hp
  have HL := Lib.hid hlow
  have HS := Lib.hid (show p.size = ps.length by rw [← hp, List.length_map]; rfl)
  clear h hp hlow
  have hit : ∀ k, Below w.heap.size w (w.iter p k) := fun k => below_iter w p k
  have HI := Lib.hid hit
  clear hit
  go_enter Tryz.func99, Tryz.ntmps99
  go_wp2_with fail
  go_loopw [5] (fun i wr => ∃ k : Nat, i = .int .i64 (k : Int) ∧ wr = w.iter p k ∧ k ≤ xs.length ∧ k ≤ ps.length ∧ takes ps xs = takes (ps.drop k) (xs.drop k)) (fun _ wr => p.size - wr.iterPos w.heap.size)
  case atStart => exact ⟨0, rfl, rfl, Nat.zero_le _, Nat.zero_le _, rfl⟩
  case round =>
    obtain ⟨k, rfl, rfl, hkx, hkp, ht⟩ := hrel
    by_cases hpk : k < p.size
    · obtain ⟨b, hb⟩ : ∃ b, (p[k]'hpk).toNat = b := ⟨_, rfl⟩
      have hmem : p[k]'hpk ∈ p.data.toList := by
        rw [ByteArray.getElem_eq_getElem_data]
        exact Array.getElem_mem_toList ..
      have hbl := HL.out _ hmem
      rw [hb] at hbl
      have hnx : ∀ ty, (Instr.next (.pointer (some ⟨w.heap.size, 0, none⟩)) true ty).run Tryz.prog (w.iter p k) = .ok (.tuple #[.bool true, .int .i64 k, .int .i32 (b : Int)]) (w.iter p (k + 1)) := fun ty => by rw [run_next_any w p k ty hpk, decode_ascii p k hpk (by rw [hb]; exact hbl.2), hb]
      have hps : ps[k]? = some b := by
        rw [← HP.out, List.getElem?_map, List.getElem?_eq_getElem (by rw [Array.length_toList]; exact hpk)]
        simp only [Option.map_some, Option.some.injEq]
        rw [← hb, ByteArray.getElem_eq_getElem_data, Array.getElem_toList]
      obtain ⟨s1, s2⟩ := takes_step ps xs k b hps (by omega)
      have hR := HH.out.kept (D := fun _ => False) (Kept.of_below (HI.out (k + 1))) (fun h => h) (fun h => h)
      have c0 := hR.cell0
      have c1 := hR.letter k hkx
      obtain ⟨N, hN⟩ : ∃ N, xs.length + 1 = N := ⟨_, rfl⟩
      rw [hN] at c0
      have hkN : (k : Int) < (N : Int) := by omega
      have hk1 : (k : Int) + 1 ≤ 9223372036854775807 := by have := HH.out.few; omega
      obtain ⟨y, hy⟩ : ∃ y, next (xs.drop k) = y := ⟨_, rfl⟩
      rw [hy] at c1 s1 s2
      by_cases hyb : y = b
      · obtain ⟨t1, t2⟩ := s1 hyb
        have HT := Lib.hid (And.intro (ht.trans t1) (And.intro t2 (show k + 1 ≤ ps.length from (List.getElem?_eq_some_iff.1 hps).1)))
        have hne : ((y : Int) != (b : Int)) = false := by simp [hyb]
        clear hb hmem hbl hps s1 s2 hR hN ht t1 t2 hy hyb
        go_wp2_with fail
        go_roundw
        case rel => exact ⟨k + 1, rfl, rfl, by have := HT.out.2.1; omega, HT.out.2.2, HT.out.1⟩
        case measure => simp; omega
      · have HT := Lib.hid (ht.trans (s2 hyb))
        have HR := Lib.hid hR
        have hne : ((y : Int) != (b : Int)) = true := by
          have : ¬ (y : Int) = (b : Int) := by omega
          simpa using this
        clear hb hmem hbl hps s1 s2 hR hN ht hy hyb
        go_wp2_with fail
        go_ret
        rw [HT.out]
        exact ⟨rfl, ⟨o, c, HR.out⟩, Kept.of_below (HI.out (k + 1))⟩
    · have hnx : ∀ ty, (Instr.next (.pointer (some ⟨w.heap.size, 0, none⟩)) true ty).run Tryz.prog (w.iter p k) = _ := fun ty => run_next_end w p k ty hpk
      have hke : k = ps.length := by have := HS.out; omega
      rw [hke, List.drop_length, ← hke] at ht
      have hR := HH.out.kept (D := fun _ => False) (Kept.of_below (HI.out k)) (fun h => h) (fun h => h)
      have c0 := hR.cell0
      have f0 := hR.frozen0
      have hd := hR.drop k hkx
      have hc := hR.cap
      obtain ⟨N, hN⟩ : ∃ N, xs.length + 1 = N := ⟨_, rfl⟩
      rw [hN] at c0 hc
      have h0 : (0 : Int) ≤ (k : Int) := by omega
      have h1 : (k : Int) ≤ (N : Int) := by omega
      have h2 : (N : Int) ≤ (c : Int) := by omega
      have h3 : (k : Int) < (c : Int) := by omega
      have h4 : (c - k == 0) = false := by
        have : ¬ c - k = 0 := by omega
        simpa using this
      have HD := Lib.hid hd
      have HE := Lib.hid (show N - k = (xs.drop k).length + 1 by simp; omega)
      have HT := Lib.hid (show takes ps xs = some (xs.drop k) from ht)
      clear hR hd hN hc ht hke hkx hkp
      go_wp2_with fail
      go_ret
      rw [HT.out]
      exact ⟨rfl, ⟨o + k * 2, c - k, by rw [HE.out]; exact HD.out⟩, Kept.setCell (D := fun k => k = X) (Kept.of_below (HI.out k)) (.inl rfl) _⟩
end Go.Proofs.YtakceggnadagmaaGreatDoor
