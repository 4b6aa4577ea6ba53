/-
  Proved: contract of Words. Conditions: at most 100000 bytes.
-/
import Derived.Test.YtfepkhlifpbkfaaSpLineM
import Derived.Test.YtfepkhlifpbkfaaSpEnd
import Derived.Test.YtfepkhlifpbkfaaGlyphBlank
namespace Go.Proofs.Ytfepkhlifpbkfaa
open Go Go.RowKit GlyphMath SpMath

theorem infoStr : (Try.prog.info? 9).map (fun i => (i.zero, i.size, i.bytes)) = some (some (.string ByteArray.empty : Value), 1, 16) := by kernel_rfl
theorem grown_drew {w w' : World} {row : Option Nat} (h : w.grownBy w' row) : w.drew.grownBy w' row := ⟨h.os, h.tape, h.output, h.size, h.block⟩
/-- Texts of the call's own. -/
def RowS (w : World) (B : Nat) (v : Value) (l : List ByteArray) : Prop := w.ownsRow B 9 1 v l.length (l.flatMap sC)
theorem RowS.add {w : World} {B n : Nat} {v : Value} {l : List ByteArray} {x : ByteArray} (hn : l.length = n) (h : w.ownsRow B 9 1 v (n + 1) (l.flatMap sC ++ [.string x])) : RowS w B v (l ++ [x]) := by
  unfold RowS
  rw [List.length_append, List.flatMap_append, List.length_singleton, hn]
  exact h
theorem str_news (w : World) (a : ByteArray) : ∀ j u, ([.string a] : List Value)[j]? = some u → (w.alloc (.cells #[.string a] 9)).cell? ((⟨w.heap.size, 0, none⟩ : Addr).add j) = some u := fun j u hu => World.news_of_block (heap_alloc_new w _) j u (by simpa using hu)
theorem str_one (a : ByteArray) : ∀ u ∈ ([.string a] : List Value), u.oneCell' = true := fun u hu => by rw [List.mem_singleton.1 hu]; rfl
def RelW (s : ByteArray) (w : World) (K : Nat) (v fr bg : Value) (wr : World) : Prop :=
  ∃ (pos : Nat) (z : Int), wr.heap[K]? = some (.stringIter s pos) ∧ pos ≤ s.size ∧ fr = .int .i64 z ∧ (∀ f, (wAt s pos).2 = some f → z = (f : Int)) ∧ bg = .bool (wAt s pos).2.isSome ∧ RowS wr w.heap.size v (wAt s pos).1 ∧ Below w.heap.size w wr
set_option maxRecDepth 8000 in
set_option maxHeartbeats 2000000 in
theorem words_any (s : ByteArray) (w : World) (hs : s.size ≤ 100000) :
    Calls Try.prog 9 #[.string s] w fun e w' => ∃ v, e = .returned v ∧ Rd 1 sC w' v (wordsM s) ∧ Below w.heap.size w w' := by
  have HS := Lib.hid hs
  obtain ⟨i0, hi1, hi2, hi3, hi4⟩ := info_parts infoStr
  have HI := Lib.hid (And.intro hi1 (And.intro hi2 (And.intro hi3 hi4)))
  clear hs hi1 hi2 hi3 hi4
  go_enter Try.func9, Try.ntmps9
  go_wp2_with fail
  go_loopw [3, 4, 5] (fun v fr bg wr => RelW s w w.heap.size v fr bg wr) (fun _ _ _ wr => s.size - wr.iterPos w.heap.size)
  case atStart => exact ⟨0, 0, World.iter_heap w s 0, Nat.zero_le _, rfl, (fun f h => by cases h), rfl, World.ownsRow_nil _ _ _ _, below_iter w s 0⟩
  case round =>
    obtain ⟨pos, z, hk, hps, rfl, hfr, rfl, hrow, hb⟩ := hrel
    obtain ⟨K, hK⟩ : ∃ K, w.heap.size = K := ⟨_, rfl⟩
    have HKK := Lib.hid hK
    rw [hK] at hk hrow hb ⊢
    clear hK
    have hwl := wAt_len s pos
    obtain ⟨L, hL⟩ : ∃ L, (wAt s pos).1 = L := ⟨_, rfl⟩
    obtain ⟨O, hO⟩ : ∃ O, (wAt s pos).2 = O := ⟨_, rfl⟩
    rw [hL, hO] at hwl
    rw [hL] at hrow
    rw [hO] at hfr ⊢
    obtain ⟨N, hN⟩ : ∃ N, L.length = N := ⟨_, rfl⟩
    have hN1 : N ≤ 100000 := by have := HS.out; omega
    have HMX := Lib.hid (show N + 1 ≤ maxLen ∧ (N + 1) * 16 ≤ 140737488355328 from by unfold maxLen; omega)
    have HNN := Lib.hid hN
    have HLO := Lib.hid (And.intro hL hO)
    by_cases hp : pos < s.size
    · obtain ⟨r, d, hd⟩ : ∃ r d, Utf8.decode s pos = (r, d) := ⟨_, _, rfl⟩
      obtain ⟨W2, hW2⟩ : ∃ W2, wr.iterAt K s (pos + d) = W2 := ⟨_, rfl⟩
      have hnx : ∀ ty, (Instr.next (.pointer (some ⟨K, 0, none⟩)) true ty).run Try.prog wr = .ok (.tuple #[.bool true, .int .i64 pos, .int .i32 (r : Int)]) W2 := fun ty => by rw [Lib.run_next_any_at wr K s pos ty hk hp, hd, ← hW2]
      have hwd := width_pos s pos hp
      have hwd2 := width_le s pos hp
      rw [hd] at hwd hwd2
      simp only at hwd hwd2
      have hr2 : RowS W2 K u3 L := by
        rw [← hW2]
        exact own_same hrow fun g hg => Lib.iterAt_other wr K g s _ (fun e => own_off hrow hk (fun c fz e => by cases e) hg e)
      have hb2 : Below K w W2 := by rw [← hW2]; exact Lib.below_iterAt hb (Nat.le_refl _) _ _
      have hi2 : W2.heap[K]? = some (.stringIter s (pos + d)) := by rw [← hW2]; exact Lib.iterAt_heap _ _ _ _ _ hk
      have hpi : wr.iterPos K = pos := by unfold World.iterPos; rw [hk]
      have HM := Lib.hid (show ∀ (W3 : World), W3.heap[K]? = some (.stringIter s (pos + d)) → s.size - W3.iterPos K < s.size - wr.iterPos K from fun W3 h => by
        have e1 : W3.iterPos K = pos + d := by unfold World.iterPos; rw [h]
        rw [e1, hpi]; omega)
      have hKlt : K < W2.heap.size := (Array.getElem?_eq_some_iff.1 hi2).1
      have HBK := Lib.hid (fun W => blank_any (r : Int) W)
      obtain ⟨BK, hBK⟩ : ∃ BK, blankR (r : Int) = BK := ⟨_, rfl⟩
      rw [hBK] at HBK
      have HWB := Lib.hid (fun (h : BK = true) => word_blank s pos hd (hBK.trans h))
      have HWO := Lib.hid (fun (h : BK = false) => word_other s pos hp hd (hBK.trans h))
      rw [hL, hO] at HWB HWO
      have HH := Lib.hid (And.intro hr2 (And.intro hb2 (And.intro hi2 (And.intro hwd2 hKlt))))
      have hfc : ∀ f, O = some f → (0 : Int) ≤ (f : Int) ∧ (f : Int) ≤ (pos : Int) ∧ (pos : Int) ≤ (s.size : Int) := fun f h => by have := hwl.2 f h; omega
      have HFC := Lib.hid hfc
      have HFR := Lib.hid hfr
      clear hW2 hd hwd hwd2 hr2 hb2 hi2 hpi hKlt hBK hk hps hfr hrow hb hwl hL hO hN hN1 hp hfc
      cases BK
      · have HW := Lib.hid (HWO.out rfl)
        clear HWB HWO
        cases O with
        | none =>
          go_wp2_with (go_at_call 14; (with_reducible refine (HBK.out _).mono ?_); rintro e w3 ⟨rfl, rfl⟩)
          go_roundw
          case rel => unfold RelW; rw [HKK.out]; exact ⟨pos + d, (pos : Int), HH.out.2.2.1, HH.out.2.2.2.1, rfl, (fun f h => by rw [HW.out] at h; simp at h; omega), by rw [HW.out]; rfl, by rw [HW.out]; exact HH.out.1, HH.out.2.1⟩
          case measure => exact HM.out _ HH.out.2.2.1
        | some f =>
          have hz := HFR.out f rfl
          subst hz
          go_wp2_with (go_at_call 14; (with_reducible refine (HBK.out _).mono ?_); rintro e w3 ⟨rfl, rfl⟩)
          go_roundw
          case rel => unfold RelW; rw [HKK.out]; exact ⟨pos + d, (f : Int), HH.out.2.2.1, HH.out.2.2.2.1, rfl, (fun f' h => by rw [HW.out] at h; simp at h; omega), by rw [HW.out]; rfl, by rw [HW.out]; exact HH.out.1, HH.out.2.1⟩
          case measure => exact HM.out _ HH.out.2.2.1
      · have HW := Lib.hid (HWB.out rfl)
        clear HWB HWO
        cases O with
        | none =>
          go_wp2_with (go_at_call 14; (with_reducible refine (HBK.out _).mono ?_); rintro e w3 ⟨rfl, rfl⟩)
          go_roundw
          case rel => unfold RelW; rw [HKK.out]; exact ⟨pos + d, z, HH.out.2.2.1, HH.out.2.2.2.1, rfl, (fun f h => by rw [HW.out] at h; cases h), by rw [HW.out]; rfl, by rw [HW.out]; exact HH.out.1, HH.out.2.1⟩
          case measure => exact HM.out _ HH.out.2.2.1
        | some f =>
          have hz := HFR.out f rfl
          subst hz
          obtain ⟨g1, g2, g3⟩ := HFC.out f rfl
          obtain ⟨E, hE⟩ : ∃ E, s.extract f pos = E := ⟨_, rfl⟩
          have HEE := Lib.hid hE
          have CO := Lib.hid (show (W2.alloc (.cells #[.string (s.extract f pos)] 9)).ownsRow K 9 1 u3 N (L.flatMap sC) from by
            have := HH.out.1.alloc (.cells #[.string (s.extract f pos)] 9)
            unfold RowS at this
            rwa [HNN.out] at this)
          have C1 := Lib.hid (str_news W2 (s.extract f pos))
          have C2 := Lib.hid (str_one (s.extract f pos))
          have C5 := Lib.hid (show K ≤ (W2.alloc (.cells #[.string (s.extract f pos)] 9)).heap.size from by have := HH.out.2.2.2.2; simp; omega)
          rw [hE] at CO C1 C2 C5
          go_wp2_with (first
            | (go_at_call 14; (with_reducible refine (HBK.out _).mono ?_); rintro e w3 ⟨rfl, rfl⟩)
            | (at_builtin; refine wpList_append_own _ rfl _ _ 25 rfl K 9 i0 (.string ByteArray.empty) 1 16 Try.underlying25 HI.out.1 HI.out.2.1 HI.out.2.2.1 HI.out.2.2.2 rfl (by decide) u3 N (L.flatMap sC) rfl CO.out ⟨W2.heap.size, 0, none⟩ 1 1 [.string E] rfl rfl C1.out C2.out HMX.out.1 HMX.out.2 C5.out ?_; intro v' w3 hown3 hg3 hn3; clear hn3; have HO3 := Lib.hid hown3; have HG3 := Lib.hid hg3; clear hown3 hg3))
          go_roundw
          case rel =>
            unfold RelW
            rw [HKK.out]
            refine ⟨pos + d, (f : Int), ?_, HH.out.2.2.2.1, rfl, (fun f h => by rw [HW.out] at h; cases h), by rw [HW.out]; rfl, ?_, ?_⟩
            · exact (sp_grown (grown_drew HG3.out) K HH.out.2.2.2.2 (fun e => own_off HH.out.1 HH.out.2.2.1 (fun c fz e => by cases e) e rfl)).trans HH.out.2.2.1
            · rw [HW.out]
              exact RowS.add HNN.out (by rw [HEE.out]; exact HO3.out)
            · exact HH.out.2.1.trans (sp_below (Nat.le_of_lt HH.out.2.2.2.2) (grown_drew HG3.out) (fun k e => (World.ownsRow.lt HH.out.1 k e).1))
          case measure => exact HM.out _ ((sp_grown (grown_drew HG3.out) K HH.out.2.2.2.2 (fun e => own_off HH.out.1 HH.out.2.2.1 (fun c fz e => by cases e) e rfl)).trans HH.out.2.2.1)
    · have hnx : ∀ ty, (Instr.next (.pointer (some ⟨K, 0, none⟩)) true ty).run Try.prog wr = _ := fun ty => Lib.run_next_end_at wr K s pos ty hk hp
      obtain rfl : pos = s.size := by omega
      have hw : wordsM s = wEnd s L O := by unfold wordsM; rw [hL, hO]
      have HW := Lib.hid hw
      have HH := Lib.hid (And.intro hrow hb)
      have hKlt : K < wr.heap.size := (Array.getElem?_eq_some_iff.1 hk).1
      have hfc : ∀ f, O = some f → (0 : Int) ≤ (f : Int) ∧ (f : Int) ≤ (s.size : Int) := fun f h => by have := hwl.2 f h; omega
      have HFC := Lib.hid hfc
      have HFR := Lib.hid hfr
      clear hw hfc hfr hrow hb hwl hL hO hN hN1 hp hk hps
      cases O with
      | none =>
        go_wp2_with fail
        go_ret
        rw [HKK.out]
        exact ⟨_, rfl, by rw [HW.out]; exact Rd.of_own sE HH.out.1, HH.out.2⟩
      | some f =>
        have hz := HFR.out f rfl
        subst hz
        obtain ⟨g1, g2⟩ := HFC.out f rfl
        obtain ⟨E, hE⟩ : ∃ E, s.extract f s.size = E := ⟨_, rfl⟩
        have HEE := Lib.hid hE
        have CO := Lib.hid (show (wr.alloc (.cells #[.string (s.extract f s.size)] 9)).ownsRow K 9 1 u3 N (L.flatMap sC) from by
          have := HH.out.1.alloc (.cells #[.string (s.extract f s.size)] 9)
          unfold RowS at this
          rwa [HNN.out] at this)
        have C1 := Lib.hid (str_news wr (s.extract f s.size))
        have C2 := Lib.hid (str_one (s.extract f s.size))
        have C5 := Lib.hid (show K ≤ (wr.alloc (.cells #[.string (s.extract f s.size)] 9)).heap.size from by simp; omega)
        rw [hE] at CO C1 C2 C5
        have HKL := Lib.hid hKlt
        clear hKlt
        go_wp2_with (at_builtin; refine wpList_append_own _ rfl _ _ 25 rfl K 9 i0 (.string ByteArray.empty) 1 16 Try.underlying25 HI.out.1 HI.out.2.1 HI.out.2.2.1 HI.out.2.2.2 rfl (by decide) u3 N (L.flatMap sC) rfl CO.out ⟨wr.heap.size, 0, none⟩ 1 1 [.string E] rfl rfl C1.out C2.out HMX.out.1 HMX.out.2 C5.out ?_; intro v' w3 hown3 hg3 hn3; clear hn3; have HO3 := Lib.hid hown3; have HG3 := Lib.hid hg3; clear hown3 hg3)
        go_ret
        rw [HKK.out]
        refine ⟨_, rfl, ?_, ?_⟩
        · rw [HW.out]
          exact Rd.of_own sE (RowS.add HNN.out (by rw [HEE.out]; exact HO3.out))
        · exact HH.out.2.trans (sp_below (Nat.le_of_lt HKL.out) (grown_drew HG3.out) (fun k e => (World.ownsRow.lt HH.out.1 k e).1))
end Go.Proofs.Ytfepkhlifpbkfaa
