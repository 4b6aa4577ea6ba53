/-
  Proved: a contract of tree's reckoning. Conditions: a text of at most 2^20 bytes.
-/
import Derived.Test.YtloaalapkmbgeaaDoorTreePart
namespace Go.Proofs.YtloaalapkmbgeaaDoor
open Go Go.RowKit GlyphMath LexMath TreeMath

theorem reck_low (c : UInt8) (h : c.toNat < 128) : reckT c = (moreR (c.toNat : Int) || inSet reckB c.toNat) := by
  unfold reckT inSet
  rw [decide_eq_true h, Bool.true_and]
  simp
theorem reck_high (c : UInt8) (h : 128 ≤ c.toNat) : reckT c = false := by
  unfold reckT
  rw [not_in h (by decide), Bool.or_false]
  unfold moreR firstR
  simp
  omega
theorem high_more (r : Nat) (h : 128 ≤ r) : moreR (r : Int) = false := by
  unfold moreR firstR
  simp
  omega

set_option maxHeartbeats 2000000 in
set_option maxRecDepth 100000 in
theorem reckoning_any (s : ByteArray) (w : World) (hs : s.size ≤ 1048576) :
    Calls Tryd.prog 66 #[.string s] w fun e w' => e = .returned (.bool (arithT s.data.toList 0)) ∧ Below w.heap.size w w' := by
  have HC := fun (r : Nat) (hr : r < 128 ∨ GoodL r) (W : World) => crune_in ⟨#[32, 9, 43, 45, 42, 47, 37, 40, 41, 60, 62, 61, 33]⟩ (by decide) (by decide) r hr W
  have HC := Lib.hid HC
  obtain ⟨R, hR⟩ : ∃ R, arithT s.data.toList 0 = R := ⟨_, rfl⟩
  have HR := Lib.hid hR
  have HS := Lib.hid hs
  rw [hR]
  clear hR hs
  go_enter Tryd.func66, Tryd.ntmps66
  go_wp2
  go_loopw [3, 5] (fun o _ wr => ∃ (pos n : Nat), wr.heap[w.heap.size]? = some (.stringIter s pos) ∧ Below w.heap.size w wr ∧ o = .int .i64 (n : Int) ∧ arithT (s.data.toList.drop pos) n = R ∧ pos ≤ s.size ∧ n ≤ pos) (fun _ _ wr => s.size - wr.iterPos w.heap.size)
  case atStart => exact ⟨0, 0, (show (w.iter s 0).heap[w.heap.size]? = some (.stringIter s 0) from by unfold World.iter; exact heap_alloc_new w _), below_iter w s 0, rfl, HR.out, Nat.zero_le _, Nat.le_refl _⟩
  case round =>
    obtain ⟨pos, n, hit, hb, rfl, hk, hle, hn⟩ := hrel
    by_cases hp : pos < s.size
    · obtain ⟨r, d, hd⟩ : ∃ r d, Utf8.decode s pos = (r, d) := ⟨_, _, rfl⟩
      have hw1 := width_pos s pos hp
      have hw2 := width_le s pos hp
      rw [hd] at hw1 hw2
      simp only at hw1 hw2
      have hnx : ∀ ty, (Instr.next (.pointer (some ⟨w.heap.size, 0, none⟩)) true ty).run Tryd.prog wr = .ok (.tuple #[.bool true, .int .i64 pos, .int .i32 (r : Int)]) (wr.iterAt w.heap.size s (pos + d)) := fun ty => by rw [Lib.run_next_any_at wr w.heap.size s pos ty hit hp, hd]
      have hit2 := Lib.iterAt_heap wr w.heap.size s pos (pos + d) hit
      have hb2 := Lib.below_iterAt hb (Nat.le_refl _) s (pos + d)
      obtain ⟨W, hW⟩ : ∃ W, wr.iterAt w.heap.size s (pos + d) = W := ⟨_, rfl⟩
      rw [hW] at hnx hit2 hb2
      have HX := Lib.hid (And.intro hit2 (And.intro hb2 (And.intro hw1 (And.intro hw2 (And.intro hit (And.intro hle hn))))))
      rw [get_drop s pos hp, arithT] at hk
      have hn1 : (n : Int) + 1 ≤ 9223372036854775807 := by have := HS.out; omega
      have hn0 : ¬ (n : Int) + 1 < 0 := by omega
      have hn2 : ¬ (n : Int) < 0 := by omega
      by_cases hc : (s.get! pos).toNat < 128
      · have hdl := dec_low s pos hc
        rw [hd] at hdl
        obtain ⟨hr, rfl⟩ : r = (s.get! pos).toNat ∧ d = 1 := by
          simp only [Prod.mk.injEq] at hdl
          exact hdl
        by_cases h40 : s.get! pos = 40
        · rw [if_pos h40] at hk
          rw [h40] at hr
          obtain rfl : r = 40 := hr
          have HK := Lib.hid hk
          have HI := Lib.hid (show Calls Tryd.prog 82 #[.string ⟨#[32, 9, 43, 45, 42, 47, 37, 40, 41, 60, 62, 61, 33]⟩, .int .i32 40] W fun e w' => e = .returned (.bool true) ∧ Below W.heap.size W w' from HC.out 40 (.inl (by decide)) W)
          clear hit hb hk hd hw1 hw2 hit2 hb2 hW hdl hc h40 hle hn
          go_wp2_with (first
            | (go_at_call 75; refine (more_any _ _).mono ?_; rintro e w1 ⟨rfl, rfl⟩; rw [show moreR 40 = false from rfl])
            | (go_at_call 82; refine HI.out.mono ?_; rintro e w1 ⟨rfl, hb⟩; have HB := Lib.hid hb; clear hb))
          go_roundw
          case rel => exact ⟨pos + 1, n + 1, (HB.out.block _ (Array.getElem?_eq_some_iff.1 HX.out.1).1).trans HX.out.1, HX.out.2.1.trans (HB.out.mono HX.out.2.1.size), by go_num, HK.out, HX.out.2.2.2.1, by have := HX.out.2.2.2.2.2.2; omega⟩
          case measure =>
            have e1 := (HB.out.block _ (Array.getElem?_eq_some_iff.1 HX.out.1).1).trans HX.out.1
            have e2 := HX.out.2.2.2.2.1
            have := HX.out.2.2.2.1
            simp only [World.iterPos, e1, e2]
            omega
        · rw [if_neg h40] at hk
          have hr40 : ((r : Int) == 40) = false := int_ne (fun e => h40 (by
            apply UInt8.toNat_inj.1
            rw [← hr]
            have : r = 40 := by omega
            rw [this]; rfl))
          by_cases h41 : s.get! pos = 41
          · rw [if_pos h41] at hk
            rw [h41] at hr
            obtain rfl : r = 41 := hr
            have HI := Lib.hid (show Calls Tryd.prog 82 #[.string ⟨#[32, 9, 43, 45, 42, 47, 37, 40, 41, 60, 62, 61, 33]⟩, .int .i32 41] W fun e w' => e = .returned (.bool true) ∧ Below W.heap.size W w' from HC.out 41 (.inl (by decide)) W)
            cases n with
            | zero =>
              have HK := Lib.hid (show false = R from hk)
              clear hit hb hk hd hw1 hw2 hit2 hb2 hW hdl hc h40 h41 hle hn hr40
              go_wp2_with fail
              go_ret
              exact ⟨ret_bool HK.out, HX.out.2.1⟩
            | succ m =>
              have HK := Lib.hid (show arithT (s.data.toList.drop (pos + 1)) m = R from hk)
              have hm0 : ¬ (m : Int) < 0 := by omega
              have hms : ((m + 1 : Nat) : Int) - 1 = (m : Int) := by omega
              obtain ⟨M, hM⟩ : ∃ M : Int, ((m + 1 : Nat) : Int) = M := ⟨_, rfl⟩
              have hMm : M - 1 = (m : Int) := by rw [← hM]; exact hms
              rw [hM]
              have hM1 : 1 ≤ M := by omega
              have HM := Lib.hid hMm
              have hM2 : ¬ M - 1 < 0 := by omega
              have hM3 : M - 1 ≤ 9223372036854775807 := by have := HS.out; omega
              clear hit hb hk hd hw1 hw2 hit2 hb2 hW hdl hc h40 h41 hle hn hr40 hms hM hMm hn1 hn0 hn2
              go_wp2_with (first
                | (go_at_call 75; refine (more_any _ _).mono ?_; rintro e w1 ⟨rfl, rfl⟩; rw [show moreR 41 = false from rfl])
                | (go_at_call 82; refine HI.out.mono ?_; rintro e w1 ⟨rfl, hb⟩; have HB := Lib.hid hb; clear hb))
              go_roundw
              case rel => exact ⟨pos + 1, m, (HB.out.block _ (Array.getElem?_eq_some_iff.1 HX.out.1).1).trans HX.out.1, HX.out.2.1.trans (HB.out.mono HX.out.2.1.size), by rw [HM.out], HK.out, HX.out.2.2.2.1, by have := HX.out.2.2.2.2.2.2; omega⟩
              case measure =>
                have e1 := (HB.out.block _ (Array.getElem?_eq_some_iff.1 HX.out.1).1).trans HX.out.1
                have e2 := HX.out.2.2.2.2.1
                have := HX.out.2.2.2.1
                simp only [World.iterPos, e1, e2]
                omega
          · rw [if_neg h41] at hk
            have hr41 : ((r : Int) == 41) = false := int_ne (fun e => h41 (by
              apply UInt8.toNat_inj.1
              rw [← hr]
              have : r = 41 := by omega
              rw [this]; rfl))
            obtain ⟨M, hM⟩ : ∃ M, moreR (r : Int) = M := ⟨_, rfl⟩
            obtain ⟨N, hN⟩ : ∃ N, inSet reckB r = N := ⟨_, rfl⟩
            have HM := Lib.hid hM
            have HI := Lib.hid (show Calls Tryd.prog 82 #[.string ⟨#[32, 9, 43, 45, 42, 47, 37, 40, 41, 60, 62, 61, 33]⟩, .int .i32 (r : Int)] W fun e w' => e = .returned (.bool N) ∧ Below W.heap.size W w' from by
              rw [← hN]
              exact HC.out r (.inl (by rw [hr]; exact hc)) W)
            rw [reck_low _ hc, ← hr, hM, hN] at hk
            have HK := Lib.hid hk
            clear hit hb hk hd hw1 hw2 hit2 hb2 hW hdl hc h40 h41 hle hn hr hM hN
            cases M with
            | true =>
              go_wp2_with (go_at_call 75; refine (more_any _ _).mono ?_; rintro e w1 ⟨rfl, rfl⟩; rw [HM.out])
              go_roundw
              case rel => exact ⟨pos + 1, n, HX.out.1, HX.out.2.1, rfl, HK.out, HX.out.2.2.2.1, by have := HX.out.2.2.2.2.2.2; omega⟩
              case measure =>
                have e1 := HX.out.1
                have e2 := HX.out.2.2.2.2.1
                have := HX.out.2.2.2.1
                simp only [World.iterPos, e1, e2]
                omega
            | false =>
              cases N with
              | true =>
                go_wp2_with (first
                  | (go_at_call 75; refine (more_any _ _).mono ?_; rintro e w1 ⟨rfl, rfl⟩; rw [HM.out])
                  | (go_at_call 82; refine HI.out.mono ?_; rintro e w1 ⟨rfl, hb⟩; have HB := Lib.hid hb; clear hb))
                go_roundw
                case rel => exact ⟨pos + 1, n, (HB.out.block _ (Array.getElem?_eq_some_iff.1 HX.out.1).1).trans HX.out.1, HX.out.2.1.trans (HB.out.mono HX.out.2.1.size), rfl, HK.out, HX.out.2.2.2.1, by have := HX.out.2.2.2.2.2.2; omega⟩
                case measure =>
                  have e1 := (HB.out.block _ (Array.getElem?_eq_some_iff.1 HX.out.1).1).trans HX.out.1
                  have e2 := HX.out.2.2.2.2.1
                  have := HX.out.2.2.2.1
                  simp only [World.iterPos, e1, e2]
                  omega
              | false =>
                go_wp2_with (first
                  | (go_at_call 75; refine (more_any _ _).mono ?_; rintro e w1 ⟨rfl, rfl⟩; rw [HM.out])
                  | (go_at_call 82; refine HI.out.mono ?_; rintro e w1 ⟨rfl, hb⟩; have HB := Lib.hid hb; clear hb))
                go_ret
                exact ⟨ret_bool HK.out, HX.out.2.1.trans (HB.out.mono HX.out.2.1.size)⟩
      · obtain ⟨r', d', h1, h2, h3, h4, h5, h6⟩ := dec_high s pos hp (by omega)
        rw [hd] at h1
        obtain ⟨rfl, rfl⟩ : r = r' ∧ d = d' := by
          simp only [Prod.mk.injEq] at h1
          exact h1
        have HM := Lib.hid (high_more r h2)
        have HI := Lib.hid (show Calls Tryd.prog 82 #[.string ⟨#[32, 9, 43, 45, 42, 47, 37, 40, 41, 60, 62, 61, 33]⟩, .int .i32 (r : Int)] W fun e w' => e = .returned (.bool false) ∧ Below W.heap.size W w' from by
          have e : inSet reckB r = false := by unfold inSet; rw [decide_eq_false (by omega), Bool.false_and]
          rw [← e]
          exact HC.out r (.inr h3) W)
        have hr40 : ((r : Int) == 40) = false := int_ne (by omega)
        have hr41 : ((r : Int) == 41) = false := int_ne (by omega)
        have HK := Lib.hid (show false = R from by
          rw [← hk, if_neg (fun e => by rw [e] at hc; exact hc (by decide)), if_neg (fun e => by rw [e] at hc; exact hc (by decide)), reck_high _ (by omega), Bool.false_and])
        clear hit hb hk hd hw1 hw2 hit2 hb2 hW hc hle hn h1 h2 h3 h4 h5 h6
        go_wp2_with (first
          | (go_at_call 75; refine (more_any _ _).mono ?_; rintro e w1 ⟨rfl, rfl⟩; rw [HM.out])
          | (go_at_call 82; refine HI.out.mono ?_; rintro e w1 ⟨rfl, hb⟩; have HB := Lib.hid hb; clear hb))
        go_ret
        exact ⟨ret_bool HK.out, HX.out.2.1.trans (HB.out.mono HX.out.2.1.size)⟩
    · have hnx : ∀ ty, (Instr.next (.pointer (some ⟨w.heap.size, 0, none⟩)) true ty).run Tryd.prog wr = _ := fun ty => Lib.run_next_end_at wr w.heap.size s pos ty hit hp
      rw [drop_all s pos hp, arithT] at hk
      have HB := Lib.hid hb
      have HK := Lib.hid hk
      clear hk hit hb
      go_wp2_with fail
      go_ret
      exact ⟨ret_bool (by rw [← HK.out]; cases n <;> rfl), HB.out⟩
end Go.Proofs.YtloaalapkmbgeaaDoor
