/-
  Proved: the walk of the law SpanApart: spans side by side do not touch one another; so it answers true and changes nothing that was there. Conditions: the rows of bytes can be read.
-/
import Derived.Test.YtjmhonocokjfeaaSpanLaw
import Derived.Deep.RegionHeld
namespace Go.Proofs.Ytjmhonocokjfeaa
open Go Go.RowKit DiskMath NetMem SpanMath

/-! ### Spans side by side -/
def atOf (ls : List (List UInt8)) : Nat → Nat
  | 0 => 0
  | k + 1 => atOf ls k + need (ls.getD k []).length
/-- The disk when so many are put. -/
def laid (ls : List (List UInt8)) : Nat → Dk
  | 0 => Dk.new 120
  | k + 1 => done (laid ls k) (atOf ls k) (k + 1) (ls.getD k [])
def Small (ls : List (List UInt8)) (k : Nat) : Prop := ∀ j, j < k → (ls.getD j []).length ≤ 100

theorem atOf_le (ls : List (List UInt8)) : ∀ (j k : Nat), j < k → atOf ls j + cnt (ls.getD j []).length < atOf ls k
  | j, 0, h => by omega
  | j, k + 1, h => by
    rw [atOf]
    rcases Nat.lt_or_ge j k with h' | h'
    · have := atOf_le ls j k h'; omega
    · obtain rfl : j = k := by omega
      unfold need; omega
theorem atOf_max (ls : List (List UInt8)) : ∀ (k : Nat), Small ls k → atOf ls k ≤ 8 * k
  | 0, _ => Nat.le_refl _
  | k + 1, h => by
    have h1 := atOf_max ls k fun j hj => h j (by omega)
    have h2 := h k (by omega)
    rw [atOf]
    unfold need cnt
    omega
theorem laid_ok (ls : List (List UInt8)) : ∀ (k : Nat), k ≤ 8 → Small ls k → (laid ls k).s.length = 120 ∧ (laid ls k).down = false ∧ (laid ls k).armed = false ∧ (laid ls k).p = [] ∧ (laid ls k).n ≤ 20 * k ∧ ∀ j, j < k → Here (laid ls k) (atOf ls j) (j + 1) (ls.getD j [])
  | 0, _, _ => ⟨by simp [laid, Dk.new], rfl, rfl, rfl, Nat.le_refl _, fun j hj => by omega⟩
  | k + 1, hk, hs => by
    obtain ⟨h1, h2, h3, h4, h5, h6⟩ := laid_ok ls k (by omega) fun j hj => hs j (by omega)
    have hm := atOf_max ls k fun j hj => hs j (by omega)
    have hk' := hs k (by omega)
    have hc : cnt (ls.getD k []).length ≤ 7 := by unfold cnt; omega
    have hl : atOf ls k + cnt (ls.getD k []).length < (laid ls k).s.length := by omega
    refine ⟨(done_len _ _ _ _).trans h1, (done_down _ _ _ _).trans h2, (done_armed _ _ _ _).trans h3, rfl, ?_, fun j hj => ?_⟩
    · show (done (laid ls k) (atOf ls k) (k + 1) (ls.getD k [])).n ≤ _
      rw [done_n]; omega
    · show Here (done (laid ls k) (atOf ls k) (k + 1) (ls.getD k [])) _ _ _
      rcases Nat.lt_or_ge j k with h' | h'
      · exact here_far _ _ _ _ hl (h6 j h') (atOf_le ls j k h')
      · obtain rfl : j = k := by omega
        exact done_here _ _ _ _ hl
theorem laid_put (ls : List (List UInt8)) (k : Nat) (hk : k < 8) (hs : Small ls (k + 1)) : spanPut (laid ls k) (atOf ls k : Nat) (need (ls.getD k []).length : Nat) (k + 1) (ls.getD k []) = (0, laid ls (k + 1)) := by
  obtain ⟨h1, h2, h3, -⟩ := laid_ok ls k (by omega) fun j hj => hs j (by omega)
  have hm := atOf_max ls k fun j hj => hs j (by omega)
  have hk' := hs k (by omega)
  have hc : cnt (ls.getD k []).length ≤ 7 := by unfold cnt; omega
  exact put_well _ _ _ _ _ h2 h3 (Int.le_refl _) (by omega)
theorem laid_get (ls : List (List UInt8)) (m k : Nat) (hm : m ≤ 8) (hk : k < m) (hs : Small ls m) : spanGet (laid ls m) (atOf ls k : Nat) 120 = some (k + 1, ls.getD k []) := by
  obtain ⟨h1, -, -, -, -, h6⟩ := laid_ok ls m hm hs
  have ha := atOf_max ls k fun j hj => hs j (by omega)
  have hk' := hs k hk
  have hc : cnt (ls.getD k []).length ≤ 7 := by unfold cnt; omega
  exact get_here _ _ _ _ _ (h6 k hk) (by omega) (by omega) (by omega) (by omega) (by unfold need; omega)

theorem wrap_next (k : Nat) (h : k < 8) : ((k + 1 : Nat) : Int) = IntKind.u32.wrap (IntKind.i64.wrap ((k : Int) + 1)) := by
  rw [IntWalk.i64_in _ (by omega), IntWalk.u32_in _ (by omega)]
  omega

set_option maxHeartbeats 1000000 in
theorem apart_out (p : Option Addr) (n c : Nat) (w : World) (h : 8 < n) (hn : n ≤ 9223372036854775807) :
    Calls Try.prog 5 #[.slice p n c] w fun e w' => e = .returned (.bool true) ∧ Below w.heap.size w w' := by
  have h1 : (8 : Int) < (n : Int) := by omega
  clear h
  go_enter Try.func5, Try.ntmps5
  go_wp2_with fail
  go_ret
  exact ⟨rfl, Below.refl _ _⟩

/-- The loops' words. -/
def RelA (ls : List (List UInt8)) (w : World) (p : Value) (at_ i : Value) (wr : World) : Prop :=
  ∃ k : Nat, k ≤ ls.length ∧ Small ls k ∧ at_ = .int .i64 ((atOf ls k : Nat) : Int) ∧ i = .int .i64 (k : Int) ∧ St w wr p (laid ls k) []
def RelB (ls : List (List UInt8)) (w : World) (p : Value) (at_ i : Value) (wr : World) : Prop :=
  ∃ k : Nat, k ≤ ls.length ∧ at_ = .int .i64 ((atOf ls k : Nat) : Int) ∧ i = .int .i64 (k : Int) ∧ St w wr p (laid ls ls.length) []

set_option maxHeartbeats 4000000 in
set_option maxRecDepth 100000 in
theorem apart_in (p : Option Addr) (c : Nat) (ls : List (List UInt8)) (w : World) (h : RowsAt w p ls) (h8 : ls.length ≤ 8) :
    Calls Try.prog 5 #[.slice p ls.length c] w fun e w' => e = .returned (.bool true) ∧ Below w.heap.size w w' := by
  have HS := Lib.hid (And.intro h h8)
  have g8 : (ls.length : Int) ≤ 8 := by omega
  clear h h8
  go_enter Try.func5, Try.ntmps5
  go_wp2_with fail
  refine (new_st 120 (by omega) 120 rfl w).mono ?_
  rintro e w1 ⟨g, rfl, h1⟩
  have H1 := Lib.hid h1
  clear h1
  go_wp2_with fail
  go_loopw [4, 5] (fun a i wr => RelA ls w (.pointer (some ⟨g, 0, none⟩)) a i wr) (fun _ i _ => ls.length - (intOf i).toNat)
  case atStart => exact ⟨0, by omega, fun j hj => by omega, rfl, rfl, H1.out⟩
  case round =>
    obtain ⟨k, hk, hsm, rfl, rfl, hst⟩ := hrel
    by_cases hlt : k < ls.length
    · obtain ⟨b, o, q, n, c2, hp, hc0, hr⟩ := HS.out.1 k hlt
      subst hp
      obtain ⟨rfl, hlc, hcm, -⟩ := Row.nums hr
      have hb0 := World.block_lt_of_cell? w _ hc0
      have hL : ls.getD k [] = ls[k] := by simp [List.getD, hlt]
      rw [← hL] at hc0 hr hlc
      obtain ⟨L, hLL⟩ : ∃ L, L = ls.getD k [] := ⟨_, rfl⟩
      rw [← hLL] at hc0 hr hlc
      have hcx : ∀ W, Below w.heap.size w W → W.cell? ⟨b, o + k, none⟩ = some (.slice q L.length c2) := fun W hb => (hb.cell (p := ⟨b, o + k, none⟩) hb0).trans hc0
      have hcw := hcx wr hst.old
      have hk8 : k < 8 := by have := HS.out.2; omega
      have HC := Lib.hid (And.intro hcx (And.intro hr (And.intro hsm (And.intro hst hLL))))
      have hkb : (k : Int) < 8 := by omega
      have hkl : (k : Int) < (ls.length : Int) := by omega
      clear hb0 hL hc0 hr hlc hcm hcx hsm hst
      by_cases hlen : 100 < L.length
      · have hlb : (100 : Int) < (L.length : Int) := by omega
        have HLL := Lib.hid hLL
        clear hlen hLL
        go_wp2_with fail
        go_ret
        exact ⟨rfl, HC.out.2.2.2.1.old⟩
      · have hlb : (L.length : Int) ≤ 100 := by omega
        have hsm2 : Small ls (k + 1) := fun j hj => by
          rcases Nat.lt_or_ge j k with h | h
          · exact HC.out.2.2.1 j h
          · obtain rfl : j = k := by omega
            rw [← hLL]; omega
        have hpt := laid_put ls k hk8 hsm2
        rw [← hLL] at hpt
        obtain ⟨-, -, -, hlp, hln, -⟩ := laid_ok ls k (by omega) HC.out.2.2.1
        have hat := atOf_max ls k HC.out.2.2.1
        have HP := Lib.hid (put_st (HC.out.2.2.2.1.below (below_drew _ _)) (atOf ls k : Nat) (need L.length : Nat) (by omega) (by omega) (k + 1) (by omega) (IntKind.u32.wrap (IntKind.i64.wrap ((k : Int) + 1))) (wrap_next k hk8) HC.out.2.1 hpt (by omega) (by omega) (by rw [hlp]; simp; omega))
        have HN := Lib.hid (fun w => need_any L.length w (by omega))
        have hnx : need L.length ≤ 100 := by unfold need cnt; omega
        have hsucc : ((atOf ls k : Nat) : Int) + (need L.length : Nat) = ((atOf ls (k + 1) : Nat) : Int) := by rw [atOf, ← hLL]; omega
        have HT := Lib.hid (And.intro hsm2 hsucc)
        obtain ⟨A, hA⟩ : ∃ A : Int, A = ((atOf ls k : Nat) : Int) := ⟨_, rfl⟩
        obtain ⟨X, hX⟩ : ∃ X : Int, X = ((need L.length : Nat) : Int) := ⟨_, rfl⟩
        rw [← hA] at HP HT ⊢
        rw [← hX] at HP HN HT
        have a1 : 0 ≤ A := by omega
        have a2 : A ≤ 64 := by omega
        have x1 : 0 ≤ X := by omega
        have x2 : X ≤ 100 := by omega
        have HLL := Lib.hid hLL
        clear hlen hLL hsm2 hpt hlp hln hat hnx hsucc hA hX
        have hS0 : wr.drew.cell? ⟨b, o + k, none⟩ = some (.slice q L.length c2) := hcw
        go_wp2_with fail
        go_region_held (fun W => W.cell? ⟨b, o + k, none⟩ = some (.slice q L.length c2)) (first | exact hS0 | exact hcv3)
          (first
            | (go_at_call 7; (with_reducible refine (HN.out _).mono ?_); rintro e w2 ⟨rfl, rfl⟩)
            | (go_at_call 11; (with_reducible refine HP.out.mono ?_); rintro e w3 ⟨rfl, hs3⟩; have hcv3 := HC.out.1 w3 hs3.old; have H3 := Lib.hid hs3; clear hs3))
        clear hS0
        go_wp2_with fail
        refine (HN.out _).mono ?_
        rintro e w4 ⟨rfl, rfl⟩
        go_wp2_with fail
        exact ⟨⟨k + 1, by omega, HT.out.1, by rw [← HT.out.2], by go_num, H3.out⟩, by simp [intOf]; omega⟩
    · obtain rfl : k = ls.length := by omega
      have H2 := Lib.hid (And.intro hsm hst)
      clear hsm hst hlt hk
      go_wp2_with fail
      go_loopw [4, 6] (fun a i wr => RelB ls w (.pointer (some ⟨g, 0, none⟩)) a i wr) (fun _ i _ => ls.length - (intOf i).toNat)
      case atStart => exact ⟨0, by omega, rfl, rfl, H2.out.2⟩
      case round =>
        obtain ⟨k, hk, rfl, rfl, hst⟩ := hrel
        by_cases hlt : k < ls.length
        · obtain ⟨b, o, q, n, c2, hp, hc0, hr⟩ := HS.out.1 k hlt
          subst hp
          obtain ⟨rfl, hlc, hcm, -⟩ := Row.nums hr
          have hb0 := World.block_lt_of_cell? w _ hc0
          have hL : ls.getD k [] = ls[k] := by simp [List.getD, hlt]
          rw [← hL] at hc0 hr hlc
          obtain ⟨L, hLL⟩ : ∃ L, L = ls.getD k [] := ⟨_, rfl⟩
          rw [← hLL] at hc0 hr hlc
          have hcx : ∀ W, Below w.heap.size w W → W.cell? ⟨b, o + k, none⟩ = some (.slice q L.length c2) := fun W hb => (hb.cell (p := ⟨b, o + k, none⟩) hb0).trans hc0
          have hk8 : k < 8 := by have := HS.out.2; omega
          have hgt := laid_get ls ls.length k HS.out.2 hlt H2.out.1
          rw [← hLL] at hgt
          have hat := atOf_max ls k fun j hj => H2.out.1 j (by omega)
          have hLb : L.length ≤ 100 := by rw [hLL]; exact H2.out.1 k hlt
          have hnx : need L.length ≤ 100 := by unfold need cnt; omega
          have hsucc : ((atOf ls k : Nat) : Int) + (need L.length : Nat) = ((atOf ls (k + 1) : Nat) : Int) := by rw [atOf, ← hLL]; omega
          obtain ⟨A, hA⟩ : ∃ A : Int, A = ((atOf ls k : Nat) : Int) := ⟨_, rfl⟩
          obtain ⟨X, hX⟩ : ∃ X : Int, X = ((need L.length : Nat) : Int) := ⟨_, rfl⟩
          have HN := Lib.hid (fun w => need_any L.length w (by omega))
          rw [← hA] at hgt hsucc ⊢
          rw [← hX] at HN hsucc
          have a1 : 0 ≤ A := by omega
          have a2 : A ≤ 64 := by omega
          have x1 : 0 ≤ X := by omega
          have x2 : X ≤ 100 := by omega
          have hkb : (k : Int) < 8 := by omega
          have hkl : (k : Int) < (ls.length : Int) := by omega
          have HG := Lib.hid (get_some_st hst A 120 (wrap_next k hk8) hgt)
          obtain ⟨sa, hsa⟩ : ∃ sa : ByteArray, (⟨L.toArray⟩ : ByteArray) = sa := ⟨_, rfl⟩
          have HC := Lib.hid (And.intro hcx (And.intro hr (And.intro hsa hsucc)))
          clear hb0 hL hLL hc0 hr hlc hcm hcx hst hgt hat hLb hnx hsucc hA hX hsa hk8
          go_wp2_with fail
          refine HG.out.mono ?_
          rintro e w2 ⟨a2', c3, rfl, h2⟩
          have h2d := h2.below (below_drew w2.heap.size w2)
          have hcv1 := conv_any (h2d.row List.mem_cons_self).row
          have hcv2 := conv_any (HC.out.2.1.below h2d.old)
          rw [HC.out.2.2.1] at hcv1 hcv2
          have HW := Lib.hid (show w2.drew.cell? ⟨b, o + k, none⟩ = some (.slice q L.length c2) ∧ (convert 25 9 (.slice a2' L.length c3)).run Try.prog w2.drew = .ok (.string sa) w2.drew ∧ (convert 25 9 (.slice q L.length c2)).run Try.prog w2.drew = .ok (.string sa) w2.drew from ⟨HC.out.1 _ h2d.old, hcv1, hcv2⟩)
          have H3 := Lib.hid (h2d.less (rows' := []) (fun r hr => by cases hr))
          clear h2 h2d hcv1 hcv2
          go_wp2_with fail
          have hw1 : IntKind.i64.wrap ((k : Int) + 1) = (k : Int) + 1 := IntWalk.i64_in _ (by omega)
          have hw2 : IntKind.u32.wrap ((k : Int) + 1) = (k : Int) + 1 := IntWalk.u32_in _ (by omega)
          go_region_held (fun W => W.cell? ⟨b, o + k, none⟩ = some (.slice q L.length c2) ∧ (convert 25 9 (.slice a2' L.length c3)).run Try.prog W = .ok (.string sa) W ∧ (convert 25 9 (.slice q L.length c2)).run Try.prog W = .ok (.string sa) W) (exact HW.out) (fail)
          clear hw1 hw2
          have hcw := HW.out.1
          go_wp2_with fail
          refine (HN.out _).mono ?_
          rintro e w4 ⟨rfl, rfl⟩
          go_wp2_with fail
          exact ⟨⟨k + 1, by omega, by rw [← HC.out.2.2.2], by go_num, H3.out⟩, by simp [intOf]; omega⟩
        · obtain rfl : k = ls.length := by omega
          have H3 := Lib.hid hst
          clear hst hlt hk
          go_wp2_with fail
          refine (known_any _).mono ?_
          rintro e w5 ⟨rfl, hb⟩
          have HB := Lib.hid (H3.out.below hb).old
          clear hb
          go_wp2_with fail
          go_ret
          exact ⟨rfl, HB.out⟩

/-- THE LAW's WALK. -/
theorem apart_law (p : Option Addr) (c : Nat) (ls : List (List UInt8)) (w : World) (h : RowsAt w p ls) (hm : ls.length ≤ 9223372036854775807) :
    Calls Try.prog 5 #[.slice p ls.length c] w fun e w' => e = .returned (.bool true) ∧ Below w.heap.size w w' := by
  by_cases h8 : 8 < ls.length
  · exact apart_out p ls.length c w h8 hm
  · exact apart_in p c ls w h (by omega)
end Go.Proofs.Ytjmhonocokjfeaa
