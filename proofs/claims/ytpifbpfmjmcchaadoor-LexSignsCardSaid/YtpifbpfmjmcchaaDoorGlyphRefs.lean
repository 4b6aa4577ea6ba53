/-
  Proved: texts joined: Proved: Same answers true of two rows of the same letters. Conditions: the rows are owned.
  Proved: contracts of the statements' own functions on one letter. Conditions: none.
  Proved: contracts of the statements' own Valid, Runes and Name, by a text's letters. Conditions: at most 1000 bytes; the library's tables lie as they should.
  Proved: contracts of the statements' own Runes and Name, by a text's letters. Conditions: at most 1000 bytes; the library's tables lie as they should.
  Proved: a contract of the statements' own Name, by a text's letters. Conditions: at most 1000 bytes; the library's tables lie as they should.
-/
import Derived.Test.YtpifbpfmjmcchaaDoorGlyphRow
import Derived.Test.YtpifbpfmjmcchaaDoorGlyphLet
import Derived.Test.YtpifbpfmjmcchaaDoorGlyphTabs
namespace Go.Proofs.YtpifbpfmjmcchaaDoor
open Go Go.RowKit GlyphMath

/-- A row's text. -/
def textOf (l : List Nat) : ByteArray := if l.length = 0 then .empty else runesBytes (l.map fun (x : Nat) => (x : Int))

theorem RowL.cell {w : World} {B g c : Nat} {l : List Nat} (h : RowL w B (.slice (some ⟨g, 0, none⟩) l.length c) l) (j : Nat) (hj : j < l.length) : w.cell? ⟨g, j, none⟩ = some (.int .i32 (l[j] : Nat)) := by
  rw [World.ownsRow.cellAt h j (by omega)]
  simp [rc, hj]
theorem addr_add (g j : Nat) : (⟨g, 0, none⟩ : Addr).add j = ⟨g, j, none⟩ := by
  unfold Addr.add
  by_cases h : j = 0 <;> simp [h]
theorem RowL.shape {w : World} {B : Nat} {v : Value} {l : List Nat} (h : RowL w B v l) : ∃ a c, v = .slice a l.length c := by
  rcases h.2 with ⟨hv, hn⟩ | ⟨g, cap, cur, hv, -⟩
  · exact ⟨none, 0, by rw [hv, hn]⟩
  · exact ⟨_, _, hv⟩

theorem RowL.convert {w : World} {B : Nat} {v : Value} {l : List Nat} (h : RowL w B v l) : (convert 112 9 v).run Tryd.prog w = .ok (.string (textOf l)) w := by
  rcases h.is with ⟨rfl, rfl⟩ | ⟨g, c, rfl⟩
  · exact run_convert_runes_nil w 112 9 21 0 0 Tryd.underlying112 Tryd.underlying21 Tryd.underlying9
  · have k := run_convert_runes (P := Tryd.prog) w 112 9 21 ⟨g, 0, none⟩ l.length c (l.map fun (x : Nat) => (x : Int)) (by simp) Tryd.underlying112 Tryd.underlying21 Tryd.underlying9 (fun j hj => by
      have hj' : j < l.length := by simpa using hj
      have := h.cell j hj'
      rw [addr_add, this]
      simp [List.getD, hj'])
    rw [k, List.take_of_length_le (by simp)]
    unfold textOf
    by_cases h0 : l.length = 0
    · rw [if_pos h0, List.eq_nil_of_length_eq_zero h0]; rfl
    · rw [if_neg h0]
end Go.Proofs.YtpifbpfmjmcchaaDoor

namespace Go.Proofs.YtpifbpfmjmcchaaDoor
open Go Go.RowKit GlyphMath

theorem rfirst_any (r : Int) (w : World) :
    Calls Tryd.prog 49 #[.int .i32 r] w fun e w' => e = .returned (.bool (firstR r)) ∧ w = w' := by
  go_enter Tryd.func49, Tryd.ntmps49
  go_wp2_with fail
  all_goals
    go_ret
    refine ⟨ret_bool (bool_iff ?_), rfl⟩
    unfold firstR
    first | (simp; done) | (simp; omega)

theorem rmore_any (r : Int) (w : World) :
    Calls Tryd.prog 76 #[.int .i32 r] w fun e w' => e = .returned (.bool (moreR r)) ∧ w = w' := by
  unfold moreR
  generalize hF : firstR r = F
  have HF := Lib.hid hF
  clear hF
  cases F
  all_goals
    go_enter Tryd.func76, Tryd.ntmps76
    go_wp2_with (go_at_call 49; refine (rfirst_any r _).mono ?_; rintro e w1 ⟨rfl, rfl⟩; (try rw [HF.out]))
  all_goals
    go_ret
    refine ⟨ret_bool (bool_iff ?_), rfl⟩
    first | (simp; done) | (simp; omega)
end Go.Proofs.YtpifbpfmjmcchaaDoor

namespace Go.Proofs.YtpifbpfmjmcchaaDoor
open Go Go.RowKit GlyphMath

theorem rest_tail (s : ByteArray) (n : Nat) : ∀ k i, s.size - (n + i) ≤ k → rest (s.extract n s.size) i = rest s (n + i)
  | 0, i, h => by rw [rest_end _ _ (by rw [Lib.tail_size]; omega), rest_end _ _ (by omega)]
  | k + 1, i, h => by
    by_cases hp : n + i < s.size
    · have hw := width_pos s (n + i) hp
      rw [rest_step _ _ (by rw [Lib.tail_size]; omega), rest_step _ _ hp, Lib.tail_decode, rest_tail s n k _ (by omega), Nat.add_assoc]
    · rw [rest_end _ _ (by rw [Lib.tail_size]; omega), rest_end _ _ (by omega)]
theorem letters_tail (t : ByteArray) (h : 0 < t.size) : letters t = (Utf8.decode t 0).1 :: letters (t.extract (Utf8.decode t 0).2 t.size) := by
  have e := rest_step t 0 h
  rw [rest_zero, Nat.zero_add] at e
  rw [e, ← rest_zero (t.extract _ _), rest_tail t _ t.size 0 (by omega), Nat.add_zero]

theorem rvalid_any (s : ByteArray) (w : World) (hs : s.size ≤ 9223372036854775807) (hT : Tabs w) :
    Calls Tryd.prog 18 #[.string s] w fun e w' => e = .returned (.tuple #[.int .i64 (place s : Int), .bool (isText s)]) ∧ Below w.heap.size w w' := by
  have HT := Lib.hid hT
  have HS := Lib.hid hs
  clear hT hs
  go_enter Tryd.func18, Tryd.ntmps18
  go_wp2_with fail
  go_loopw [4] (fun i wr => ∃ pos : Nat, i = .int .i64 (pos : Int) ∧ pos ≤ s.size ∧ badFrom s pos = firstBad s ∧ Below w.heap.size w wr) (fun i _ => s.size - (intOf i).toNat)
  case atStart => exact ⟨0, rfl, Nat.zero_le _, rfl, Below.refl _ _⟩
  case round =>
    obtain ⟨pos, rfl, hle, hk, hb⟩ := hrel
    have HB := Lib.hid hb
    have HTr := Lib.hid (HT.out.below hb)
    clear hb
    by_cases hp : pos < s.size
    · obtain ⟨r, d, hd⟩ : ∃ r d, Utf8.decode s pos = (r, d) := ⟨_, _, rfl⟩
      have hc := dec_at s pos wr hp HTr.out
      have hwd := width_pos s pos hp
      have hwl := width_le s pos hp
      rw [badFrom_step s pos hp, hd] at hk
      unfold bad at hk
      rw [hd] at hwd hwl hk hc
      simp only at hk hwd hwl hc
      have HC := Lib.hid hc
      have HW := Lib.hid (And.intro hwd hwl)
      have hpi : (pos : Int) < s.size := by omega
      have had : (pos : Int) + d ≤ 9223372036854775807 := by have := HS.out; omega
      have E1 := Lib.hid (fun (h : badFrom s (pos + d) = firstBad s) => h)
      clear hd hc hwd hwl hp
      by_cases b0 : r = 0
      · subst b0
        have E := Lib.hid (show place s = pos ∧ isText s = false by constructor <;> (first | unfold place | unfold isText) <;> rw [← hk] <;> rfl)
        clear hk E1
        go_wp2_with (go_at_call 30; refine HC.out.mono ?_; rintro e w1 ⟨rfl, hb1⟩; have H1 := Lib.hid hb1; clear hb1)
        go_ret2
        exact ⟨by rw [E.out.1, E.out.2]; rfl, HB.out.trans (H1.out.mono HB.out.size)⟩
      · have b0' : ((r : Int) == 0) = false := by simpa using b0
        have c0 : (r == 0) = false := by simpa using b0
        by_cases b1 : r = 65533
        · subst b1
          by_cases b2 : d = 1
          · subst b2
            have E := Lib.hid (show place s = pos ∧ isText s = false by constructor <;> (first | unfold place | unfold isText) <;> rw [← hk] <;> rfl)
            clear hk E1 b0 c0
            go_wp2_with (go_at_call 30; refine HC.out.mono ?_; rintro e w1 ⟨rfl, hb1⟩; have H1 := Lib.hid hb1; clear hb1)
            go_ret2
            exact ⟨by rw [E.out.1, E.out.2]; rfl, HB.out.trans (H1.out.mono HB.out.size)⟩
          · have b2' : ((d : Int) == 1) = false := by
              have : ¬ (d : Int) = 1 := by omega
              simpa using this
            have c2 : (d == 1) = false := by simpa using b2
            have HK := Lib.hid (show badFrom s (pos + d) = firstBad s by rw [← hk, c2]; rfl)
            clear hk E1 b0 c0 b2 c2
            go_wp2_with (go_at_call 30; refine HC.out.mono ?_; rintro e w1 ⟨rfl, hb1⟩; have H1 := Lib.hid hb1; clear hb1)
            go_roundw
            case rel => exact ⟨pos + d, by go_num, HW.out.2, HK.out, HB.out.trans (H1.out.mono HB.out.size)⟩
            case measure => have := HW.out; simp [intOf]; omega
        · have b1' : ((r : Int) == 65533) = false := by
            have : ¬ (r : Int) = 65533 := by omega
            simpa using this
          have c1 : (r == 65533) = false := by simpa using b1
          have HK := Lib.hid (show badFrom s (pos + d) = firstBad s by rw [← hk, c0, c1]; rfl)
          clear hk E1 b0 c0 b1 c1
          go_wp2_with (go_at_call 30; refine HC.out.mono ?_; rintro e w1 ⟨rfl, hb1⟩; have H1 := Lib.hid hb1; clear hb1)
          go_roundw
          case rel => exact ⟨pos + d, by go_num, HW.out.2, HK.out, HB.out.trans (H1.out.mono HB.out.size)⟩
          case measure => have := HW.out; simp [intOf]; omega
    · obtain rfl : pos = s.size := by omega
      rw [badFrom_end s _ hp] at hk
      have E := Lib.hid (show place s = s.size ∧ isText s = true by constructor <;> (first | unfold place | unfold isText) <;> rw [← hk] <;> rfl)
      clear hk hp hle
      go_wp2_with fail
      go_ret2
      exact ⟨by rw [E.out.1, E.out.2]; rfl, HB.out⟩
end Go.Proofs.YtpifbpfmjmcchaaDoor

namespace Go.Proofs.YtpifbpfmjmcchaaDoor
open Go Go.RowKit GlyphMath

def strLen : Value → Nat | .string b => b.size | _ => 0

def RelG (s : ByteArray) (w : World) (t v : Value) (wr : World) : Prop :=
  ∃ (u : ByteArray) (done : List Nat), t = .string u ∧ u.size ≤ s.size ∧ Below w.heap.size w wr ∧ RowL wr w.heap.size v done ∧ done ++ letters u = letters s

theorem new_cells (w : World) (r : Nat) : ∀ (j : Nat) (u : Value), [Value.int .i32 (r : Int)][j]? = some u → (w.alloc (.cells #[.int .i32 (r : Int)] 21)).cell? ((⟨w.heap.size, 0, none⟩ : Addr).add j) = some u := by
  intro j u hj
  match j, hj with
  | 0, hj => exact (World.cell?_alloc_mark _ #[.int .i32 (r : Int)] 21 (0, 0) 0).trans hj

theorem relG_step {s u' : ByteArray} {w : World} {r : Nat} {v v' : Value} {w1 w' : World} {done : List Nat} {c : Value} (hsz : u'.size ≤ s.size) (hb : Below w.heap.size w w1)
    (hrow : RowL w1 w.heap.size v done) (hl : done ++ r :: letters u' = letters s)
    (hown : w'.ownsRow w.heap.size 21 1 v' (done.length + 1) (rc done ++ [.int .i32 (r : Int)])) (hg : (w1.alloc (.cells #[c] 21)).grownBy w' v.ownBlock) : RelG s w (.string u') v' w' := by
  refine ⟨u', done ++ [r], rfl, hsz, ?_, ?_, by rw [List.append_assoc]; exact hl⟩
  · have b2 := hb.alloc hb.size (.cells #[c] 21)
    refine b2.grown hg b2.size ?_
    intro k e
    exact (World.ownsRow.lt hrow k e).1
  · unfold RowL
    rw [rc_add, List.length_append, List.length_singleton]
    exact hown

set_option maxHeartbeats 1000000 in
set_option maxRecDepth 100000 in
theorem rrunes_any (s : ByteArray) (w : World) (hs : s.size ≤ 1000) (hT : Tabs w) :
    Calls Tryd.prog 77 #[.string s] w fun e w' => ∃ v, e = .returned v ∧ RowL w' w.heap.size v (letters s) ∧ Below w.heap.size w w' := by
  have HT := Lib.hid hT
  have HS := Lib.hid hs
  have HL := Lib.hid (letters_length s)
  clear hT hs
  obtain ⟨i0, hi, hz0, hz1, hz2⟩ := info_parts info32
  go_enter Tryd.func77, Tryd.ntmps77
  go_wp2_with fail
  go_loopw [0, 3] (fun t v wr => RelG s w t v wr) (fun t _ _ => strLen t)
  case atStart => exact ⟨s, [], rfl, Nat.le_refl _, Below.refl _ _, RowL.nil _ _, rfl⟩
  case round =>
    obtain ⟨u, done, rfl, hsz, hb, hrow, hdone⟩ := hrel
    have HTr := Lib.hid (HT.out.below hb)
    by_cases hp : 0 < u.size
    · obtain ⟨r, d, hd⟩ : ∃ r d, Utf8.decode u 0 = (r, d) := ⟨_, _, rfl⟩
      have hc := dec_any u wr hp HTr.out
      have hwd := width_pos u 0 hp
      have hwl := width_le u 0 hp
      have hst := letters_tail u hp
      rw [hd] at hwd hwl hst hc
      simp only [Nat.zero_add] at hwd hwl hst hc
      rw [hst] at hdone
      have HC := Lib.hid hc
      have HW := Lib.hid (And.intro hwd hwl)
      have hlen : done.length + 1 ≤ 1000 := by
        have h1 := congrArg List.length hdone
        rw [List.length_append, List.length_cons] at h1
        have := HL.out; have := HS.out; omega
      have C3 := Lib.hid (show done.length + 1 ≤ maxLen by unfold maxLen; omega)
      have C4 := Lib.hid (show (done.length + 1) * 4 ≤ 140737488355328 by omega)
      have HD := Lib.hid hdone
      have HR := Lib.hid hrow
      have HB := Lib.hid hb
      have HP := Lib.hid (show (u.extract d u.size).size ≤ s.size ∧ (u.extract d u.size).size < u.size by rw [Lib.tail_size]; omega)
      have hpi : (0 : Int) < u.size := by omega
      have hdi : (d : Int) ≤ u.size := by omega
      clear hd hst hwd hwl hdone hlen hp hrow hb hc hsz
      go_wp2_with (first
        | (go_at_call 30; refine HC.out.mono ?_; rintro e w1 ⟨rfl, hb1⟩; have HB1 := Lib.hid (HB.out.trans (hb1.mono HB.out.size)); have HR1 := Lib.hid (HR.out.below hb1); have CO := Lib.hid (World.ownsRow.alloc HR1.out (.cells #[.int .i32 (r : Int)] 21)); have C5 := Lib.hid (show w.heap.size ≤ (w1.alloc (.cells #[.int .i32 (r : Int)] 21)).heap.size by rw [World.size_alloc]; have := HB1.out.size; omega); clear hb1)
        | (at_builtin; refine wpList_append_own _ rfl _ _ 112 rfl w.heap.size 21 i0 (.int .i32 0) 1 4 Tryd.underlying112 hi hz0 hz1 hz2 rfl (by decide) _ _ _ rfl CO.out ⟨w1.heap.size, 0, none⟩ 1 1 [.int .i32 (r : Int)] rfl rfl (new_cells w1 r) (by intro u hu; simp at hu; subst hu; rfl) C3.out C4.out C5.out ?_; intro v' w3 hown3 hg3 _))
      refine ⟨relG_step HP.out.1 HB1.out HR1.out HD.out hown3 hg3, ?_⟩
      exact HP.out.2
    · have hpi : ¬ (0 : Int) < u.size := by omega
      have h0 : letters u = [] := by rw [← rest_zero]; exact rest_end u 0 hp
      rw [h0, List.append_nil] at hdone
      have HR := Lib.hid (show RowL wr w.heap.size _ (letters s) by rw [← hdone]; exact hrow)
      have HB := Lib.hid hb
      clear hdone hrow hb hsz hp
      go_wp2_with fail
      go_ret
      exact ⟨_, rfl, HR.out, HB.out⟩
end Go.Proofs.YtpifbpfmjmcchaaDoor

namespace Go.Proofs.YtpifbpfmjmcchaaDoor
open Go Go.RowKit GlyphMath

theorem name_of_all (l : List Nat) (h0 : 0 < l.length) (ha : l.all (fun (x : Nat) => moreR x) = true) : nameL l = (decide (l.length ≤ 12) && firstR l[0]) := by
  cases l with
  | nil => simp at h0
  | cons a r => simp only [nameL, ha, List.getElem_cons_zero]; simp [Bool.and_comm]
theorem name_of_not (l : List Nat) (k : Nat) (hk : k < l.length) (h : moreR l[k] = false) : nameL l = false := by
  have : l.all (fun (x : Nat) => moreR x) = false := by
    rw [List.all_eq_false]
    exact ⟨l[k], List.getElem_mem hk, by simp [h]⟩
  cases l with
  | nil => simp at hk
  | cons a r => simp only [nameL, this]; simp

theorem all_take {l : List Nat} {k : Nat} (hk : k < l.length) (ha : (l.take k).all (fun (x : Nat) => moreR x) = true) (h : moreR l[k] = true) : (l.take (k + 1)).all (fun (x : Nat) => moreR x) = true := by
  rw [List.take_succ_eq_append_getElem hk, List.all_append, ha]
  simp [h]

set_option maxHeartbeats 1000000 in
theorem rname_any (s : ByteArray) (w : World) (hs : s.size ≤ 1000) (hT : Tabs w) :
    Calls Tryd.prog 63 #[.string s] w fun e w' => e = .returned (.bool (nameL (letters s))) ∧ Below w.heap.size w w' := by
  have hc := rrunes_any s w hs hT
  have hll := letters_length s
  generalize letters s = l at hc hll ⊢
  have HL := Lib.hid (show l.length ≤ 1000 by omega)
  clear hT hs hll
  go_enter Tryd.func63, Tryd.ntmps63
  go_wp2_with fail
  refine hc.mono ?_
  rintro e w1 ⟨v, rfl, hrow, hb⟩
  have HB := Lib.hid hb
  clear hb hc
  rcases hrow.is with ⟨rfl, rfl⟩ | ⟨g, c, rfl⟩
  · clear hrow
    go_wp2_with fail
    go_loop [4] (fun i => i = .int .i64 0) (fun _ => 0)
    case atStart => rfl
    case round =>
      subst hrel
      go_wp2_with fail
      go_ret
      exact ⟨rfl, HB.out⟩
  · have HC := Lib.hid (fun (j : Nat) (hj : j < l.length) => hrow.cell j hj)
    clear hrow
    obtain ⟨n, hn⟩ : ∃ n, l.length = n := ⟨_, rfl⟩
    have HN := Lib.hid hn
    rw [hn]
    clear hn
    go_wp2_with fail
    go_loop [4] (fun i => ∃ k : Nat, k ≤ n ∧ i = .int .i64 (k : Int) ∧ (l.take k).all (fun (x : Nat) => moreR x) = true) (fun i => n - (intOf i).toNat)
    case atStart => exact ⟨0, Nat.zero_le _, rfl, rfl⟩
    case round =>
      obtain ⟨k, hk, rfl, ha⟩ := hrel
      have HA := Lib.hid ha
      clear ha
      by_cases hlt : k < n
      · have hkl : k < l.length := by rw [HN.out]; exact hlt
        have hcell := HC.out k hkl
        obtain ⟨M, hM⟩ : ∃ M, moreR l[k] = M := ⟨_, rfl⟩
        have HM := Lib.hid (And.intro hkl (fun h : k < l.length => (show moreR (l[k] : Nat) = M from hM)))
        obtain ⟨x, hx⟩ : ∃ x : Int, ((l[k] : Nat) : Int) = x := ⟨_, rfl⟩
        rw [hx] at hcell hM
        have HX := Lib.hid hM
        have h1 : (k : Int) < n := by omega
        have h2 : (k : Int) + 1 ≤ 9223372036854775807 := by have := HL.out; omega
        have HK := Lib.hid hlt
        clear hx hM hkl hlt hk
        cases M
        all_goals
          go_wp2_with (go_at_call 76; refine (rmore_any _ _).mono ?_; rintro e w2 ⟨rfl, rfl⟩; rw [HX.out])
        · go_ret
          exact ⟨ret_bool (name_of_not l k HM.out.1 (HM.out.2 HM.out.1)).symm, HB.out⟩
        · go_round
          case rel => exact ⟨k + 1, by have := HK.out; omega, by go_num, all_take HM.out.1 HA.out (HM.out.2 HM.out.1)⟩
          case measure => have := HK.out; simp [intOf]; omega
      · obtain rfl : k = n := by omega
        have ha := HA.out
        rw [List.take_of_length_le (by rw [HN.out]; exact Nat.le_refl _)] at ha
        clear hlt hk HA
        by_cases h0 : 0 < k
        · have h0l : 0 < l.length := by rw [HN.out]; exact h0
          have E := Lib.hid (name_of_all l h0l ha)
          have hcell := HC.out 0 h0l
          obtain ⟨F, hF⟩ : ∃ F, firstR (l[0] : Nat) = F := ⟨_, rfl⟩
          have E2 := Lib.hid (show nameL l = (decide (k ≤ 12) && F) by rw [E.out, hF, HN.out])
          obtain ⟨x, hx⟩ : ∃ x : Int, ((l[0] : Nat) : Int) = x := ⟨_, rfl⟩
          rw [hx] at hcell hF
          have HX := Lib.hid hF
          have h1 : (0 : Int) < k := by omega
          clear hx hF h0l E ha h0
          by_cases h12 : k ≤ 12
          · have h2 : (k : Int) ≤ 12 := by omega
            have E3 := Lib.hid (show nameL l = F by rw [E2.out, decide_eq_true h12, Bool.true_and])
            clear h12 E2
            go_wp2_with (go_at_call 49; refine (rfirst_any _ _).mono ?_; rintro e w2 ⟨rfl, rfl⟩; rw [HX.out])
            go_ret
            exact ⟨ret_bool (by rw [E3.out]), HB.out⟩
          · have h2 : ¬ (k : Int) ≤ 12 := by omega
            have E3 := Lib.hid (show nameL l = false by rw [E2.out, decide_eq_false h12, Bool.false_and])
            clear h12 E2
            go_wp2_with fail
            go_ret
            exact ⟨ret_bool (by rw [E3.out]), HB.out⟩
        · obtain rfl : k = 0 := by omega
          have hl0 : l = [] := List.eq_nil_of_length_eq_zero HN.out
          have E := Lib.hid (show nameL l = false by rw [hl0]; rfl)
          clear ha h0 hl0
          go_wp2_with fail
          go_ret
          exact ⟨ret_bool (by rw [E.out]), HB.out⟩
end Go.Proofs.YtpifbpfmjmcchaaDoor
