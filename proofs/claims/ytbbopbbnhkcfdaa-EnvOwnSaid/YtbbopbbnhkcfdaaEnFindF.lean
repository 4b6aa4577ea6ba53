/-
  Proved: contracts of the comparison that find hands over, of slices.BinarySearchFunc and of find, over rows of api.Fun in order. Conditions: at most 1000 entries.
-/
import Derived.Test.YtbbopbbnhkcfdaaEnMem
import Derived.BigCall
namespace Go.Proofs.Ytbbopbbnhkcfdaa
open Go Go.RowKit EnMath

theorem closF_any (x : ByteArray × Int) (n : ByteArray) (X : Nat) (w : World) (hX : w.cell? ⟨X, 0, none⟩ = some (.func (.func 25) #[] #[])) :
    Calls Try.prog 43 #[.agg #[.string x.1, .int .i64 x.2], .string n, .pointer (some ⟨X, 0, none⟩)] w fun e w' => e = .returned (.int .i64 (cmpN x.1 n)) ∧ Below w.heap.size w w' := by
  obtain ⟨a, b⟩ := x
  have HX := Lib.hid hX
  have hlt := World.block_lt_of_cell? w _ hX
  obtain ⟨W1, hW1⟩ : ∃ W, w.alloc (.cells #[.string a, .int .i64 b] 47) = W := ⟨_, rfl⟩
  have hb : Below w.heap.size w W1 := by rw [← hW1]; exact (Below.refl _ w).alloc (Nat.le_refl _) _
  have HB := Lib.hid hb
  have c0 : W1.cell? ⟨X, 0, none⟩ = some (.func (.func 25) #[] #[]) := (World.cell?_of_block (hb.block X hlt)).trans hX
  have c1 : W1.cell? ⟨w.heap.size, 0, none⟩ = some (.string a) := by rw [← hW1]; exact cell_of_row _ _ 0 _ _ _ (heap_alloc_new w _)
  have c2 : W1.cell? ⟨w.heap.size, 1, none⟩ = some (.int .i64 b) := by rw [← hW1]; exact cell_of_row _ _ 1 _ _ _ (heap_alloc_new w _)
  clear hX hb hlt
  go_enter Try.func43, Try.ntmps43
  go_wp2_with (first
    | (rw [hW1]; clear hW1)
    | (go_at_call 25; (with_reducible refine (funName_any a b W1).mono ?_); rintro e w2 ⟨rfl, hb2⟩; have HB2 := Lib.hid (HB.out.trans (hb2.mono HB.out.size)); clear hb2)
    | (go_at_call 41; (with_reducible refine (compare_any a n w2).mono ?_); rintro e w3 ⟨rfl, rfl⟩))
  go_ret
  exact ⟨rfl, HB2.out⟩

set_option maxHeartbeats 1000000 in
theorem bsfF_any {l : List (ByteArray × Int)} {n : ByteArray} {A C : List (ByteArray × Int)} {o : Option Int} (s : Spl l n A o C) (p : Option Addr) (c X : Nat) (w : World) (h : Rd 2 fC w (.slice p l.length c) l) (hX : w.cell? ⟨X, 0, none⟩ = some (.func (.func 25) #[] #[])) (hl : l.length ≤ 1000) :
    Calls Try.prog 42 #[.slice p l.length c, .string n, .func (.func 43) #[] #[.pointer (some ⟨X, 0, none⟩)]] w fun e w' => e = .returned (.tuple #[.int .i64 (A.length : Int), .bool o.isSome]) ∧ Below w.heap.size w w' := by
  obtain ⟨N, hN⟩ : ∃ N, l.length = N := ⟨_, rfl⟩
  obtain ⟨M, hM⟩ : ∃ M, A.length = M := ⟨_, rfl⟩
  have hMN := s.le
  have HS := Lib.hid s
  have HR := Lib.hid h
  have HN := Lib.hid (And.intro hN hM)
  rw [hN, hM] at hMN
  rw [hN] at hl
  rw [hN, hM]
  obtain ⟨S, hS⟩ : ∃ S, o.isSome = S := ⟨_, rfl⟩
  rw [hS]
  have HO := Lib.hid hS
  have HC := Lib.hid (fun (x : ByteArray × Int) (W : World) (hb : Below w.heap.size w W) => closF_any x n X W ((World.cell?_of_block (hb.block X (World.block_lt_of_cell? w _ hX))).trans hX))
  clear s h hN hM hX hS
  go_enter Try.func42, Try.ntmps42
  go_wp2_with fail
  go_loopw [9, 10] (fun i j wr => ∃ a b : Nat, i = .int .i64 (a : Int) ∧ j = .int .i64 (b : Int) ∧ a ≤ M ∧ M ≤ b ∧ b ≤ N ∧ Below w.heap.size w wr) (fun i j _ => (intOf j).toNat - (intOf i).toNat)
  case atStart => exact ⟨0, N, rfl, rfl, by omega, by omega, by omega, Below.refl _ _⟩
  case round =>
    obtain ⟨a, b, rfl, rfl, ha, hb, hbN, hbw⟩ := hrel
    have HB := Lib.hid hbw
    clear hbw
    by_cases hab : a < b
    · obtain ⟨k, hk⟩ : ∃ k : Nat, (a + b) / 2 = k := ⟨_, rfl⟩
      have hka : a ≤ k := by omega
      have hkb : k < b := by omega
      have hkI : ((a : Int) + (b : Int)) / 2 = (k : Int) := by omega
      obtain ⟨x, hx⟩ : ∃ x, l[k]? = some x := ⟨_, List.getElem?_eq_getElem (by rw [HN.out.1]; omega)⟩
      have hlt := HS.out.lt hx
      rw [HN.out.2, ← cmpN_lt] at hlt
      obtain ⟨b0, o0, rfl, hcc⟩ := HR.out.get hx
      have d0 := hcc k x hx 0 _ rfl
      have d1 := hcc k x hx 1 _ rfl
      rw [Nat.add_zero] at d0
      have e0 := (World.cell?_of_block (HB.out.block b0 (World.block_lt_of_cell? w _ d0))).trans d0
      have e1 := (World.cell?_of_block (HB.out.block b0 (World.block_lt_of_cell? w _ d0))).trans d1
      have HX := Lib.hid (HC.out x)
      obtain ⟨Z, hZ⟩ : ∃ Z, cmpN x.1 n = Z := ⟨_, rfl⟩
      rw [hZ] at HX hlt
      obtain ⟨x1, x2⟩ := x
      have hkN : (k : Int) < (N : Int) := by omega
      have hk0 : (0 : Int) ≤ (k : Int) := by omega
      clear hcc hx hZ d0 d1 hk
      by_cases hkM : k < M
      · have hz : Z < 0 := by simpa [hkM] using hlt
        clear hlt
        go_wp2_with (first
          | (go_at_call 43; (with_reducible refine (HX.out wr HB.out).mono ?_); rintro e w2 ⟨rfl, hb2⟩; have HB2 := Lib.hid (HB.out.trans (hb2.mono HB.out.size)); clear hb2))
        exact ⟨⟨k + 1, b, by go_num, rfl, by omega, hb, hbN, HB2.out⟩, by simp [intOf]; omega⟩
      · have hz : ¬ Z < 0 := by simpa [hkM] using hlt
        clear hlt
        go_wp2_with (first
          | (go_at_call 43; (with_reducible refine (HX.out wr HB.out).mono ?_); rintro e w2 ⟨rfl, hb2⟩; have HB2 := Lib.hid (HB.out.trans (hb2.mono HB.out.size)); clear hb2))
        exact ⟨⟨a, k, rfl, rfl, ha, by omega, by omega, HB2.out⟩, by simp [intOf]; omega⟩
    · obtain rfl : a = M := by omega
      obtain rfl : b = a := by omega
      clear hab ha hb
      by_cases hbl : b < N
      · obtain ⟨x, hx⟩ : ∃ x, l[b]? = some x := ⟨_, List.getElem?_eq_getElem (by rw [HN.out.1]; omega)⟩
        have hat := (HS.out.at_ (by rw [HN.out.2]; exact hx)).1
        rw [← cmpN_eq] at hat
        obtain ⟨b0, o0, rfl, hcc⟩ := HR.out.get hx
        have d0 := hcc b x hx 0 _ rfl
        have d1 := hcc b x hx 1 _ rfl
        rw [Nat.add_zero] at d0
        have e0 := (World.cell?_of_block (HB.out.block b0 (World.block_lt_of_cell? w _ d0))).trans d0
        have e1 := (World.cell?_of_block (HB.out.block b0 (World.block_lt_of_cell? w _ d0))).trans d1
        have HX := Lib.hid (HC.out x)
        obtain ⟨Z, hZ⟩ : ∃ Z, cmpN x.1 n = Z := ⟨_, rfl⟩
        rw [hZ] at HX hat
        obtain ⟨x1, x2⟩ := x
        have hkN : (b : Int) < (N : Int) := by omega
        have hk0 : (0 : Int) ≤ (b : Int) := by omega
        rw [HO.out] at hat
        clear hcc hx hZ d0 d1
        go_wp2_with (first
          | (go_at_call 43; (with_reducible refine (HX.out wr HB.out).mono ?_); rintro e w2 ⟨rfl, hb2⟩; have HB2 := Lib.hid (HB.out.trans (hb2.mono HB.out.size)); clear hb2))
        go_ret2
        exact ⟨rfl, HB2.out⟩
      · have ho := HS.out.end_ (by rw [HN.out.1, HN.out.2]; omega)
        have HO' := Lib.hid (show S = false by rw [← HO.out, ho]; rfl)
        clear ho
        go_wp2_with fail
        go_ret2
        rw [HO'.out]
        exact ⟨rfl, HB.out⟩

theorem findF_any {l : List (ByteArray × Int)} {n : ByteArray} {A C : List (ByteArray × Int)} {o : Option Int} (s : Spl l n A o C) (v : Value) (w : World) (h : Rd 2 fC w v l) (hl : l.length ≤ 1000) :
    Calls Try.prog 33 #[v, .string n, .func (.func 25) #[] #[]] w fun e w' => e = .returned (.tuple #[.int .i64 (A.length : Int), .bool o.isSome]) ∧ Below w.heap.size w w' := by
  obtain ⟨p, c, rfl⟩ := h.shape
  obtain ⟨W1, hW1⟩ : ∃ W, w.alloc (.cells #[.func (.func 25) #[] #[]] 51) = W := ⟨_, rfl⟩
  have hb : Below w.heap.size w W1 := by rw [← hW1]; exact (Below.refl _ w).alloc (Nat.le_refl _) _
  have c1 : W1.cell? ⟨w.heap.size, 0, none⟩ = some (.func (.func 25) #[] #[]) := by rw [← hW1]; exact cell_of_row _ _ 0 _ _ _ (heap_alloc_new w _)
  have HF := Lib.hid (bsfF_any s p c w.heap.size W1 (h.below hb (Nat.le_refl _)) c1 hl)
  have HB := Lib.hid hb
  obtain ⟨N, hN⟩ : ∃ N, l.length = N := ⟨_, rfl⟩
  rw [hN] at HF ⊢
  clear hb c1 h hl hN
  go_enter Try.func33, Try.ntmps33
  go_wp2_with (first
    | (rw [hW1]; clear hW1)
    | (go_at_call 42; (refine HF.out.mono ?_); rintro e w2 ⟨rfl, hb2⟩; have HB2 := Lib.hid (HB.out.trans (hb2.mono HB.out.size)); clear hb2))
  go_ret2
  exact ⟨rfl, HB2.out⟩
end Go.Proofs.Ytbbopbbnhkcfdaa
