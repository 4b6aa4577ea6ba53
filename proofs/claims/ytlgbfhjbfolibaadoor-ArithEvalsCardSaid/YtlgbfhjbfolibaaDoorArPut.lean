/-
  Proved: contracts of a reckoner's put, wait. Conditions: it lies in memory; at most 20000 wait.
-/
import Derived.Test.YtlgbfhjbfolibaaDoorArMem
namespace Go.Proofs.YtlgbfhjbfolibaaDoor
open Go Go.Shelf Go.RowKit ArMath

theorem infoI64 : (Tryd.prog.info? 2).map (fun i => (i.zero, i.size, i.bytes)) = some (some (.int .i64 0), 1, 8) := by kernel_rfl
theorem infoSign : (Tryd.prog.info? 72).map (fun i => (i.zero, i.size, i.bytes)) = some (some (.agg #[.string ⟨#[]⟩, .int .i64 0]), 2, 24) := by kernel_rfl
section
variable {w : World} {X : Nat} {vs : Vars} {vv mm nn ss : Value} {s : St}
/-- What the reckoner's own cells are behind an append to a row of its. -/
theorem ar_grown {w w1 : World} {X : Nat} {l : ByteArray} {b : Bool} {o : Obj} {row : Option Nat} (h : ArBlk w X l vv mm nn ss b) (hg : (w.alloc o).grownBy w1 row) (hr : ∀ k, row = some k → X + 1 ≤ k) : ArBlk w1 X l vv mm nn ss b := by
  have hlt := (Array.getElem?_eq_some_iff.1 h).1
  exact (hg.block X (by simp; omega) (fun e => by have := hr X e.symm; omega)).trans ((Below.heap_alloc _ _ _ hlt).trans h)
theorem put_news (w : World) (n : Int) : ∀ j u, ([.int .i64 n] : List Value)[j]? = some u → (w.alloc (.cells #[.int .i64 n] 2)).cell? ((⟨w.heap.size, 0, none⟩ : Addr).add j) = some u := fun j u hu => World.news_of_block (heap_alloc_new w _) j u (by simpa using hu)
theorem put_grown {w w1 : World} {o : Obj} {row : Option Nat} (hg : (w.alloc o).grownBy w1 row) : ∀ k, k < w.heap.size → row ≠ some k → w1.heap[k]? = w.heap[k]? := fun k hk hn => (hg.block k (by simp; omega) (fun e => hn e.symm)).trans (Below.heap_alloc _ _ _ hk)
theorem put_below {w w1 : World} {X : Nat} {o : Obj} {row : Option Nat} (hg : (w.alloc o).grownBy w1 row) (hX : X < w.heap.size) (hr : ∀ k, row = some k → X + 1 ≤ k) : Below X w w1 :=
  ⟨hg.os, hg.tape, hg.output, by have := hg.size; simp at this; omega, fun k hk => put_grown hg k (by omega) fun e => by have := hr k e; omega⟩
set_option maxRecDepth 8000 in
set_option maxHeartbeats 1000000 in
theorem put_any (n : Int) (ok : Bool) (hn : I64 n) (hl : s.nums.length ≤ 20000) (h : Rk w X vs vv mm nn ss s) :
    Calls Tryd.prog 37 #[.pointer (some ⟨X, 0, none⟩), .int .i64 n, .bool ok] w fun e w' => e = .returned (.tuple #[]) ∧ (∃ nn', Rk w' X vs vv mm nn' ss (s.put (n, ok))) ∧ Below X w w' ∧ ∀ k, k < w.heap.size → X ≠ k → nn.ownBlock ≠ some k → w'.heap[k]? = w.heap[k]? := by
  obtain ⟨c0, c1, c2, c3, c4, c5, hfz⟩ := ar_cell h.blk
  obtain ⟨i0, hi1, hi2, hi3, hi4⟩ := info_parts infoI64
  have HI := Lib.hid (And.intro hi1 (And.intro hi2 (And.intro hi3 hi4)))
  have HR := Lib.hid h
  have HO := Lib.hid (fun o => h.rws.nums.alloc o)
  have hlt := h.lt
  have HLT := Lib.hid hlt
  have HL := Lib.hid (show s.nums.length + 1 ≤ maxLen ∧ (s.nums.length + 1) * 8 ≤ 140737488355328 from ⟨by unfold maxLen; omega, by omega⟩)
  have HN := Lib.hid hn
  have HRL := Lib.hid (fun k hk => (World.ownsRow.lt h.rws.nums k hk).1)
  have HBS := Lib.hid (show ∀ o, X + 1 ≤ (w.alloc o).heap.size from fun o => by simp; omega)
  obtain ⟨bd, hbd⟩ : ∃ b, s.bad = b := ⟨_, rfl⟩
  have HB := Lib.hid h.blk
  rw [hbd] at c5 HB
  have HBD := Lib.hid hbd
  have HNW := Lib.hid (put_news w n)
  have H1C := Lib.hid (show ∀ u ∈ ([.int .i64 n] : List Value), u.oneCell' = true from fun u hu => by rw [List.mem_singleton.1 hu]; rfl)
  have HSZ := Lib.hid (show ∀ o, (w.alloc o).heap.size = w.heap.size + 1 from fun o => by simp)
  clear h hi1 hi2 hi3 hi4 hl hn hfz hbd hlt
  have e1 : (s.put (n, ok)) = { s with nums := n :: s.nums, bad := s.bad || !ok } := rfl
  rw [e1, HBD.out]
  clear e1
  cases bd <;> cases ok
  all_goals
    go_enter Tryd.func37, Tryd.ntmps37
    go_wp2_with (at_builtin; (refine wpList_append_lies _ (by rfl) (.tmp 10) (.tmp 12) 35 (by rfl) (X + 1) 2 i0 (.int .i64 0) 1 8 Tryd.underlying35 HI.out.1 HI.out.2.1 HI.out.2.2.1 HI.out.2.2.2 (by rfl) (by decide) nn s.nums.length (numC s.nums.reverse) (by rfl) (HO.out _) ⟨w.heap.size, 0, none⟩ 1 1 [.int .i64 n] (by rfl) (by rfl) HNW.out H1C.out (by decide) HL.out.1 HL.out.2 (HBS.out _) (w.heap.size + 1) (HSZ.out _) ?_); intro g cap w1 hown hgrow hat hglt; have hb1 := ar_grown HB.out hgrow HRL.out; obtain ⟨d0, d1, d2, d3, d4, d5, dfz⟩ := ar_cell hb1; have f3 := dfz 3; have f5 := dfz 5; have HOW := Lib.hid hown; have HGR := Lib.hid hgrow; have HAT := Lib.hid hat; have HB1 := Lib.hid hb1; clear hown hgrow hat hglt hb1 dfz)
  all_goals
    go_end0
    refine ⟨rfl, ⟨_, ar_set5 (ar_set3 HB1.out _) _, Rws.setX (Rws.setX (HR.out.rws.addN HN.out HOW.out (put_grown HGR.out) (HAT.out.imp id fun e => by omega)))⟩, ar_below (ar_below (put_below HGR.out HLT.out HRL.out)), fun k h1 h2 h3 => (ar_other h2).trans ((ar_other h2).trans (put_grown HGR.out k h1 h3))⟩
theorem wait_news (w : World) (a b : Value) : ∀ j u, ([a, b] : List Value)[j]? = some u → (w.alloc (.cells #[a, b] 72)).cell? ((⟨w.heap.size, 0, none⟩ : Addr).add j) = some u := fun j u hu => World.news_of_block (heap_alloc_new w _) j u (by simpa using hu)
set_option maxRecDepth 8000 in
set_option maxHeartbeats 1000000 in
theorem wait_any (t : B) (k : Nat) (hl : s.signs.length ≤ 20000) (h : Rk w X vs vv mm nn ss s) :
    Calls Tryd.prog 35 #[.pointer (some ⟨X, 0, none⟩), .string (tx t), .int .i64 (k : Int)] w fun e w' => e = .returned (.tuple #[]) ∧ (∃ ss', Rk w' X vs vv mm nn ss' (s.wait t k)) ∧ Below X w w' := by
  obtain ⟨c0, c1, c2, c3, c4, c5, hfz⟩ := ar_cell h.blk
  obtain ⟨i0, hi1, hi2, hi3, hi4⟩ := info_parts infoSign
  have HI := Lib.hid (And.intro hi1 (And.intro hi2 (And.intro hi3 hi4)))
  have HR := Lib.hid h
  have HO := Lib.hid (fun o => h.rws.signs.alloc o)
  have hlt := h.lt
  have HLT := Lib.hid hlt
  have HL := Lib.hid (show s.signs.length + 1 ≤ maxLen ∧ (s.signs.length + 1) * 24 ≤ 140737488355328 from ⟨by unfold maxLen; omega, by omega⟩)
  have HRL := Lib.hid (fun k hk => (World.ownsRow.lt h.rws.signs k hk).1)
  have HBS := Lib.hid (show ∀ o, X + 1 ≤ (w.alloc o).heap.size from fun o => by simp; omega)
  have HB := Lib.hid h.blk
  obtain ⟨T, hT⟩ : ∃ T, tx t = T := ⟨_, rfl⟩
  obtain ⟨K, hK⟩ : ∃ K : Int, (k : Int) = K := ⟨_, rfl⟩
  rw [hT, hK]
  have HTK := Lib.hid (And.intro hT hK)
  have HNW := Lib.hid (wait_news w (.string T) (.int .i64 K))
  have H1C := Lib.hid (show ∀ u ∈ ([.string T, .int .i64 K] : List Value), u.oneCell' = true from fun u hu => by
    rcases List.mem_cons.1 hu with rfl | hu
    · rfl
    · rw [List.mem_singleton.1 hu]; rfl)
  have HSZ := Lib.hid (show ∀ o, (w.alloc o).heap.size = w.heap.size + 1 from fun o => by simp)
  clear h hi1 hi2 hi3 hi4 hl hfz hlt hT hK
  go_enter Tryd.func35, Tryd.ntmps35
  go_wp2_with (at_builtin; (refine wpList_append_lies _ (by rfl) (.tmp 10) (.tmp 14) 44 (by rfl) (X + 1) 72 i0 (.agg #[.string ⟨#[]⟩, .int .i64 0]) 2 24 Tryd.underlying44 HI.out.1 HI.out.2.1 HI.out.2.2.1 HI.out.2.2.2 (by rfl) (by decide) ss s.signs.length (sgC s.signs.reverse) (by rfl) (HO.out _) ⟨w.heap.size, 0, none⟩ 1 1 [.string T, .int .i64 K] (by rfl) (by rfl) HNW.out H1C.out (by decide) HL.out.1 HL.out.2 (HBS.out _) (w.heap.size + 1) (HSZ.out _) ?_); intro g cap w1 hown hgrow hat hglt; have hb1 := ar_grown HB.out hgrow HRL.out; obtain ⟨d0, d1, d2, d3, d4, d5, dfz⟩ := ar_cell hb1; have f4 := dfz 4; have HOW := Lib.hid hown; have HGR := Lib.hid hgrow; have HAT := Lib.hid hat; have HB1 := Lib.hid hb1; clear hown hgrow hat hglt hb1 dfz)
  go_end0
  refine ⟨rfl, ⟨_, ar_set4 HB1.out _, Rws.setX (HR.out.rws.addS (by rw [HTK.out.1, HTK.out.2]; exact HOW.out) (put_grown HGR.out) (HAT.out.imp id fun e => by omega))⟩, ar_below (put_below HGR.out HLT.out HRL.out)⟩
end
end Go.Proofs.YtlgbfhjbfolibaaDoor
