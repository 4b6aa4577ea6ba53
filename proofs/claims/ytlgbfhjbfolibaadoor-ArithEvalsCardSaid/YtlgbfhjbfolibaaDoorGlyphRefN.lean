/-
  Proved: a contract of the statements' own Name, by a text's letters. Conditions: at most 2^40 bytes; the library's tables lie as they should.
-/
import Derived.Test.YtlgbfhjbfolibaaDoorGlyphRefR
namespace Go.Proofs.YtlgbfhjbfolibaaDoor
open Go Go.RowKit GlyphMath

theorem name_of_all (l : List Nat) (h0 : 0 < l.length) (ha : l.all (fun (x : Nat) => moreR x) = true) : nameL l = (decide (l.length ≤ 12) && firstR l[0]) := by
  cases l with
  | nil => simp at h0
  | cons a r => simp only [nameL, ha, List.getElem_cons_zero]; simp [Bool.and_comm]
theorem name_of_not (l : List Nat) (k : Nat) (hk : k < l.length) (h : moreR l[k] = false) : nameL l = false := by
  have : l.all (fun (x : Nat) => moreR x) = false := by
    rw [List.all_eq_false]
    exact ⟨l[k], List.getElem_mem hk, by simp [h]⟩
  cases l with
  | nil => simp at hk
  | cons a r => simp only [nameL, this]; simp

theorem all_take {l : List Nat} {k : Nat} (hk : k < l.length) (ha : (l.take k).all (fun (x : Nat) => moreR x) = true) (h : moreR l[k] = true) : (l.take (k + 1)).all (fun (x : Nat) => moreR x) = true := by
  rw [List.take_succ_eq_append_getElem hk, List.all_append, ha]
  simp [h]

set_option maxHeartbeats 1000000 in
theorem rname_any (s : ByteArray) (w : World) (hs : s.size ≤ 1099511627776) (hT : Tabs w) :
    Calls Tryd.prog 73 #[.string s] w fun e w' => e = .returned (.bool (nameL (letters s))) ∧ Below w.heap.size w w' := by
  have hc := rrunes_any s w hs hT
  have hll := letters_length s
  generalize letters s = l at hc hll ⊢
  have HL := Lib.hid (show l.length ≤ 1099511627776 by omega)
  clear hT hs hll
  go_enter Tryd.func73, Tryd.ntmps73
  go_wp2_with fail
  refine hc.mono ?_
  rintro e w1 ⟨v, rfl, hrow, hb⟩
  have HB := Lib.hid hb
  clear hb hc
  rcases hrow.is with ⟨rfl, rfl⟩ | ⟨g, c, rfl⟩
  · clear hrow
    go_wp2_with fail
    go_loop [4] (fun i => i = .int .i64 0) (fun _ => 0)
    case atStart => rfl
    case round =>
      subst hrel
      go_wp2_with fail
      go_ret
      exact ⟨rfl, HB.out⟩
  · have HC := Lib.hid (fun (j : Nat) (hj : j < l.length) => hrow.cell j hj)
    clear hrow
    obtain ⟨n, hn⟩ : ∃ n, l.length = n := ⟨_, rfl⟩
    have HN := Lib.hid hn
    rw [hn]
    clear hn
    go_wp2_with fail
    go_loop [4] (fun i => ∃ k : Nat, k ≤ n ∧ i = .int .i64 (k : Int) ∧ (l.take k).all (fun (x : Nat) => moreR x) = true) (fun i => n - (intOf i).toNat)
    case atStart => exact ⟨0, Nat.zero_le _, rfl, rfl⟩
    case round =>
      obtain ⟨k, hk, rfl, ha⟩ := hrel
      have HA := Lib.hid ha
      clear ha
      by_cases hlt : k < n
      · have hkl : k < l.length := by rw [HN.out]; exact hlt
        have hcell := HC.out k hkl
        obtain ⟨M, hM⟩ : ∃ M, moreR l[k] = M := ⟨_, rfl⟩
        have HM := Lib.hid (And.intro hkl (fun h : k < l.length => (show moreR (l[k] : Nat) = M from hM)))
        obtain ⟨x, hx⟩ : ∃ x : Int, ((l[k] : Nat) : Int) = x := ⟨_, rfl⟩
        rw [hx] at hcell hM
        have HX := Lib.hid hM
        have h1 : (k : Int) < n := by omega
        have h2 : (k : Int) + 1 ≤ 9223372036854775807 := by have := HL.out; omega
        have HK := Lib.hid hlt
        clear hx hM hkl hlt hk
        cases M
        all_goals
          go_wp2_with (go_at_call 72; refine (rmore_any _ _).mono ?_; rintro e w2 ⟨rfl, rfl⟩; rw [HX.out])
        · go_ret
          exact ⟨ret_bool (name_of_not l k HM.out.1 (HM.out.2 HM.out.1)).symm, HB.out⟩
        · go_round
          case rel => exact ⟨k + 1, by have := HK.out; omega, by go_num, all_take HM.out.1 HA.out (HM.out.2 HM.out.1)⟩
          case measure => have := HK.out; simp [intOf]; omega
      · obtain rfl : k = n := by omega
        have ha := HA.out
        rw [List.take_of_length_le (by rw [HN.out]; exact Nat.le_refl _)] at ha
        clear hlt hk HA
        by_cases h0 : 0 < k
        · have h0l : 0 < l.length := by rw [HN.out]; exact h0
          have E := Lib.hid (name_of_all l h0l ha)
          have hcell := HC.out 0 h0l
          obtain ⟨F, hF⟩ : ∃ F, firstR (l[0] : Nat) = F := ⟨_, rfl⟩
          have E2 := Lib.hid (show nameL l = (decide (k ≤ 12) && F) by rw [E.out, hF, HN.out])
          obtain ⟨x, hx⟩ : ∃ x : Int, ((l[0] : Nat) : Int) = x := ⟨_, rfl⟩
          rw [hx] at hcell hF
          have HX := Lib.hid hF
          have h1 : (0 : Int) < k := by omega
          clear hx hF h0l E ha h0
          by_cases h12 : k ≤ 12
          · have h2 : (k : Int) ≤ 12 := by omega
            have E3 := Lib.hid (show nameL l = F by rw [E2.out, decide_eq_true h12, Bool.true_and])
            clear h12 E2
            go_wp2_with (go_at_call 76; refine (rfirst_any _ _).mono ?_; rintro e w2 ⟨rfl, rfl⟩; rw [HX.out])
            go_ret
            exact ⟨ret_bool (by rw [E3.out]), HB.out⟩
          · have h2 : ¬ (k : Int) ≤ 12 := by omega
            have E3 := Lib.hid (show nameL l = false by rw [E2.out, decide_eq_false h12, Bool.false_and])
            clear h12 E2
            go_wp2_with fail
            go_ret
            exact ⟨ret_bool (by rw [E3.out]), HB.out⟩
        · obtain rfl : k = 0 := by omega
          have hl0 : l = [] := List.eq_nil_of_length_eq_zero HN.out
          have E := Lib.hid (show nameL l = false by rw [hl0]; rfl)
          clear ha h0 hl0
          go_wp2_with fail
          go_ret
          exact ⟨ret_bool (by rw [E.out]), HB.out⟩
end Go.Proofs.YtlgbfhjbfolibaaDoor
