/-
  Proved: mark's Read answers bytes' mark, or none. Conditions: at most 900000 bytes; the library's table and its two sentinel errors read as laid.
-/
import Derived.Test.YtilplpjdbkipoaaGreatDoorMarkCode
import Derived.Test.YtilplpjdbkipoaaGreatDoorNetKeep
namespace Go.Proofs.YtilplpjdbkipoaaGreatDoor
open Go Go.RowKit NetMath NetMem MarkMath SpanMath

theorem glob_keep {w w' : World} (h : NetP.Glob w) {B : Nat} (hb : Below B w w') (h4 : 4 ≤ B) : NetP.Glob w' := h.keep fun k hk => hb.block k (by omega)
theorem numRest_le (l : List UInt8) : (numRest l).length ≤ l.length := by
  unfold numRest
  cases firstN l with
  | none => exact Nat.le_refl _
  | some x => obtain ⟨n, k⟩ := x; simp

theorem five_cells {w : World} {k : Nat} {a b c d e : Value} {t : TypeId} {fr : Nat × Nat} (h : w.heap[k]? = some (.cells #[a, b, c, d, e] t fr)) :
    w.cell? ⟨k, 0, none⟩ = some a ∧ w.cell? ⟨k, 1, none⟩ = some b ∧ w.cell? ⟨k, 2, none⟩ = some c ∧ w.cell? ⟨k, 3, none⟩ = some d ∧ w.cell? ⟨k, 4, none⟩ = some e := by
  refine ⟨?_, ?_, ?_, ?_, ?_⟩ <;> simp [World.cell?, h]
theorem five_free {w : World} {k : Nat} {a b c d e : Value} {t : TypeId} (h : w.heap[k]? = some (.cells #[a, b, c, d, e] t)) (j : Nat) : w.frozen? ⟨k, j, none⟩ = false := by
  simp [World.frozen?, h]
theorem five_set {B k : Nat} {w w' : World} (hb : Below B w w') (hk : B ≤ k) (a b c d e : Value) : Below B w (((((w'.setCell ⟨k, 0, none⟩ a).setCell ⟨k, 1, none⟩ b).setCell ⟨k, 2, none⟩ c).setCell ⟨k, 3, none⟩ d).setCell ⟨k, 4, none⟩ e) :=
  ((((hb.setCell (p := ⟨k, 0, none⟩) hk _).setCell (p := ⟨k, 1, none⟩) hk _).setCell (p := ⟨k, 2, none⟩) hk _).setCell (p := ⟨k, 3, none⟩) hk _).setCell (p := ⟨k, 4, none⟩) hk _
theorem five_put {w : World} {k : Nat} {x0 x1 x2 x3 x4 : Value} {t : TypeId} {fr : Nat × Nat} (h : w.heap[k]? = some (.cells #[x0, x1, x2, x3, x4] t fr)) (a b c d e : Value) :
    (((((w.setCell ⟨k, 0, none⟩ a).setCell ⟨k, 1, none⟩ b).setCell ⟨k, 2, none⟩ c).setCell ⟨k, 3, none⟩ d).setCell ⟨k, 4, none⟩ e).heap[k]? = some (.cells #[a, b, c, d, e] t fr) :=
  heap_set (heap_set (heap_set (heap_set (heap_set h 0 a) 1 b) 2 c) 3 d) 4 e
theorem mark_info : (Tryz.prog.info? 35).map (·.size) = some 5 := by kernel_rfl
/-- A mark's variable is read. -/
theorem load_mark {w : World} {k : Nat} {a b c d e : Value} {t : TypeId} {fr : Nat × Nat} (h : w.heap[k]? = some (.cells #[a, b, c, d, e] t fr)) : (loadVar 35 ⟨k, 0, none⟩).run Tryz.prog w = .ok (.agg #[a, b, c, d, e]) w :=
  run_loadVar_row (P := Tryz.prog) w k t 35 _ fr _ h Tryz.underlying35 rfl mark_info

theorem text_rest (l : List UInt8) : (textV (rest3 l)).length ≤ l.length := by
  have ht : ∀ l : List UInt8, (textV l).length ≤ l.length := fun l => by
    unfold textV textOf
    cases firstN l with
    | none => simp
    | some x =>
      obtain ⟨n, k⟩ := x
      simp only
      by_cases hc : n < 0 ∨ ((l.length - k : Nat) : Int) < n
      · rw [if_pos hc]; simp
      · rw [if_neg hc]; simp only [List.length_take, List.length_drop]; omega
  have h1 := ht (rest3 l)
  have h2 := numRest_le (rest2 l)
  have h3 := numRest_le (rest1 l)
  have h4 := numRest_le l
  unfold rest3 rest2 rest1 at *
  omega

/-- A Reader beside a call that began at B: what is read of it. -/
def RdS (B r : Nat) (w w' : World) (l : List UInt8) : Prop := Below B w w' ∧ NetP.Rd 122 w' r l ∧ NetP.Glob w'
theorem RdS.step {B r : Nat} {w w1 w2 : World} {l l' : List UInt8} (h : RdS B r w w1 l) (hB : B ≤ w.heap.size) (hr : B ≤ r) (h4 : 4 ≤ B) (hrd : NetP.Rd 122 w2 r l') (hk : NetP.Kept r w1 w2) : RdS B r w w2 l' := by
  have hb := hk.below (Nat.le_trans hB h.1.size) hr
  exact ⟨h.1.trans hb, hrd, glob_keep h.2.2 hb h4⟩

set_option maxHeartbeats 2000000 in
set_option maxRecDepth 100000 in
theorem first_mark (r : Nat) (l : List UInt8) (hl : l.length ≤ 900000) (w : World) (h : NetP.Rd 122 w r l) (hg : NetP.Glob w) (B : Nat) (hB : B ≤ w.heap.size) (hrB : B ≤ r) (h4 : 4 ≤ B) :
    Calls Tryz.prog 60 #[.pointer (some ⟨r, 0, none⟩)] w fun e w' => e = .returned (.tuple #[(readM l).v, .bool (readOk l)]) ∧ Below B w w' := by
  obtain ⟨l1, e1⟩ : ∃ l1, l1 = rest1 l := ⟨_, rfl⟩
  obtain ⟨l2, e2⟩ : ∃ l2, l2 = rest2 l := ⟨_, rfl⟩
  obtain ⟨l3, e3⟩ : ∃ l3, l3 = rest3 l := ⟨_, rfl⟩
  have e1' : numRest l = l1 := e1.symm
  have e2' : numRest l1 = l2 := by rw [e1]; exact e2.symm
  have e3' : numRest l2 = l3 := by rw [e2]; exact e3.symm
  have k1 := numRest_le l
  have k2 := numRest_le l1
  have k3 := numRest_le l2
  rw [e1'] at k1
  rw [e2'] at k2
  rw [e3'] at k3
  obtain ⟨n0, hn0⟩ : ∃ n0, n0 = numV l := ⟨_, rfl⟩
  obtain ⟨n1, hn1⟩ : ∃ n1, n1 = numV l1 := ⟨_, rfl⟩
  obtain ⟨n2, hn2⟩ : ∃ n2, n2 = numV l2 := ⟨_, rfl⟩
  obtain ⟨s3, hs3⟩ : ∃ s3 : ByteArray, s3 = ⟨(textV l3).toArray⟩ := ⟨_, rfl⟩
  obtain ⟨b0, hb0⟩ : ∃ b0, b0 = numOk l := ⟨_, rfl⟩
  obtain ⟨b1, hb1⟩ : ∃ b1, b1 = numOk l1 := ⟨_, rfl⟩
  obtain ⟨b2, hb2⟩ : ∃ b2, b2 = numOk l2 := ⟨_, rfl⟩
  obtain ⟨b3, hb3⟩ : ∃ b3, b3 = textOk l3 := ⟨_, rfl⟩
  have HM := Lib.hid (show (readM l).v = .agg #[.int .i64 0, .int .i64 n0, .bool (n1 == 1), .int .i64 n2, .string s3] ∧ readOk l = (b0 && (b1 && (b2 && b3))) from by
    unfold readM readOk Mk.v
    rw [← e1, ← e2, ← e3, hn0, hn1, hn2, hs3, hb0, hb1, hb2, hb3]
    exact ⟨rfl, rfl⟩)
  have ha : Below w.heap.size w (w.alloc (.cells #[.int .i64 0, .int .i64 0, .bool false, .int .i64 0, .string ⟨#[]⟩] 35)) := (Below.refl _ _).alloc (Nat.le_refl _) _
  have HS0 := Lib.hid (show RdS B r w (w.alloc (.cells #[.int .i64 0, .int .i64 0, .bool false, .int .i64 0, .string ⟨#[]⟩] 35)) l from ⟨ha.mono hB, NetP.Rd.below h ha, hg.below ha⟩)
  have HB := Lib.hid (And.intro hB (And.intro hrB h4))
  have HL := Lib.hid (show l.length ≤ 140737488355328 ∧ l1.length ≤ 140737488355328 ∧ l2.length ≤ 140737488355328 ∧ l3.length ≤ 140737488355328 from ⟨by omega, by omega, by omega, by omega⟩)
  have HE := Lib.hid (And.intro e1' (And.intro e2' (And.intro e3' (And.intro hs3 trivial))))
  have HN := Lib.hid (And.intro hn0 (And.intro hn1 (And.intro hn2 (And.intro hb0 (And.intro hb1 (And.intro hb2 hb3))))))
  have H0 := Lib.hid (And.intro h (show w.heap.size ≠ r from fun e => by have := NetP.Rd.lt h; omega))
  rw [HM.out.1, HM.out.2]
  clear e1 e2 e3 e1' e2' e3' k1 k2 k3 hn0 hn1 hn2 hs3 hb0 hb1 hb2 hb3 ha h hg hB hrB h4 hl
  have hne := H0.out.2
  go_enter Tryz.func60, Tryz.ntmps60
  go_wp2_with fail
  refine (NetP.rnum_any r l HL.out.1 _ HS0.out.2.1 HS0.out.2.2).mono ?_
  rintro e w1 ⟨rfl, hr1, hk1⟩
  rw [HE.out.1] at hr1
  rw [← HN.out.1, ← HN.out.2.2.2.1]
  have HS1 := Lib.hid (HS0.out.step HB.out.1 HB.out.2.1 HB.out.2.2 hr1 hk1)
  have HK1 := Lib.hid hk1
  clear hr1 hk1
  go_wp2_with fail
  refine (NetP.rnum_any r l1 HL.out.2.1 _ HS1.out.2.1 HS1.out.2.2).mono ?_
  rintro e w2 ⟨rfl, hr1, hk1⟩
  rw [HE.out.2.1] at hr1
  rw [← HN.out.2.1, ← HN.out.2.2.2.2.1]
  have HS2 := Lib.hid (HS1.out.step HB.out.1 HB.out.2.1 HB.out.2.2 hr1 hk1)
  have HK2 := Lib.hid (HK1.out.trans hk1)
  clear hr1 hk1
  go_wp2_with fail
  refine (NetP.rnum_any r l2 HL.out.2.2.1 _ HS2.out.2.1 HS2.out.2.2).mono ?_
  rintro e w3 ⟨rfl, hr1, hk1⟩
  rw [HE.out.2.2.1] at hr1
  rw [← HN.out.2.2.1, ← HN.out.2.2.2.2.2.1]
  have HS3 := Lib.hid (HS2.out.step HB.out.1 HB.out.2.1 HB.out.2.2 hr1 hk1)
  have HK3 := Lib.hid (HK2.out.trans hk1)
  clear hr1 hk1
  go_wp2_with fail
  refine (NetP.rtext_any r l3 HL.out.2.2.2 _ HS3.out.2.1 HS3.out.2.2).mono ?_
  rintro e w4 ⟨rfl, hr1, hk1⟩
  rw [← HE.out.2.2.2.1, ← HN.out.2.2.2.2.2.2]
  have HS4 := Lib.hid (HS3.out.step HB.out.1 HB.out.2.1 HB.out.2.2 hr1 hk1)
  have HK4 := Lib.hid (HK3.out.trans hk1)
  have hblk : w4.heap[w.heap.size]? = some (.cells #[.int .i64 0, .int .i64 0, .bool false, .int .i64 0, .string ⟨#[]⟩] 35) := by
    rw [HK4.out.block w.heap.size (by simp) (by simpa using hne)]
    exact heap_alloc_new w _
  clear hr1 hk1
  have hlt : w.heap.size < w4.heap.size := (Array.getElem?_eq_some_iff.1 hblk).1
  obtain ⟨c0, c1, c2, c3, c4⟩ := five_cells hblk
  have fz := five_free hblk
  have ne0 := World.new_ne w4 _ c0
  have ne1 := World.new_ne w4 _ c1
  have ne2 := World.new_ne w4 _ c2
  have ne3 := World.new_ne w4 _ c3
  have ne4 := World.new_ne w4 _ c4
  have f0 := fz 0
  have f1 := fz 1
  have f2 := fz 2
  have f3 := fz 3
  have f4 := fz 4
  have HF := Lib.hid (show Below B w w4 ∧ B ≤ w.heap.size from ⟨HS4.out.1, HB.out.1⟩)
  have HP := Lib.hid hblk
  clear hblk fz
  go_wp2_with fail
  all_goals
    have hld := load_mark ((Below.heap_alloc _ (.cells #[.int .i64 0, .int .i64 n0, .bool (n1 == 1), .int .i64 n2, .string s3] 35) w.heap.size (Array.getElem?_eq_some_iff.1 (five_put HP.out (.int .i64 0) (.int .i64 n0) (.bool (n1 == 1)) (.int .i64 n2) (.string s3))).1).trans (five_put HP.out (.int .i64 0) (.int .i64 n0) (.bool (n1 == 1)) (.int .i64 n2) (.string s3)))
    (try simp only [Exit.inBlock, Exit.then])
    refine bodyPost_ret (v := .tuple #[.agg #[.int .i64 0, .int .i64 n0, .bool (n1 == 1), .int .i64 n2, .string s3], .bool (b0 && (b1 && (b2 && b3)))]) ?_ rfl ⟨rfl, (five_set HF.out.1 HF.out.2 _ _ _ _ _).alloc (by have := HF.out.2; simp [World.setCell]; omega) _⟩
    rw [results_cell_tmp rfl]
    simp [asAddr, Result.andThen, *]

/-- What Read answers. -/
def readV (l : List UInt8) : Mk := if readB l then readM l else Mk.none
theorem ret_mark {fn : Func} (hf : fn.results = #[.cell 2 35, .tmp 3]) {tmps : Array Value} {k : Nat} {a b c d e x : Value} {w : World} {t : TypeId} {fr : Nat × Nat} (h : w.heap[k]? = some (.cells #[a, b, c, d, e] t fr)) (h2 : tmps.getD 2 undef = .pointer (some ⟨k, 0, none⟩)) (h3 : tmps.getD 3 undef = x) :
    (results fn tmps).run Tryz.prog w = .ok (.tuple #[.agg #[a, b, c, d, e], x]) w := by
  rw [results_cell_tmp hf, h2, h3]
  simp [asAddr, Result.andThen, load_mark h]

set_option maxHeartbeats 2000000 in
set_option maxRecDepth 100000 in
theorem read_any (p : Option Addr) (c : Nat) (l : List UInt8) (hl : l.length ≤ 900000) (w : World) (h : Row w (.slice p l.length c) l) (hg : NetP.Glob w) :
    Calls Tryz.prog 38 #[.slice p l.length c] w fun e w' => e = .returned (.tuple #[(readV l).v, .bool (readB l)]) ∧ Below w.heap.size w w' := by
  have h4 := hg.size
  have ha : Below w.heap.size w (w.alloc (.cells #[.int .i64 0, .int .i64 0, .bool false, .int .i64 0, .string ⟨#[]⟩] 35)) := (Below.refl _ _).alloc (Nat.le_refl _) _
  have hfit := readM_fits l (by omega)
  obtain ⟨m, hm⟩ : ∃ m, m = readM l := ⟨_, rfl⟩
  have hof : m.out.size ≤ 900000 := by
    rw [hm]
    show (textV (rest3 l)).toArray.size ≤ 900000
    rw [List.size_toArray]
    exact Nat.le_trans (text_rest l) hl
  have HA := Lib.hid (And.intro ha (And.intro (h.below ha) (hg.below ha)))
  have HN := Lib.hid (NetP.new_any (.slice p l.length c) l (by omega) _ HA.out.2.1)
  have HF := Lib.hid (fun r W h1 h2 h3 h5 => first_mark r l hl W h1 h2 (w.heap.size + 1) h3 h5 (by omega))
  rw [← hm] at HF
  obtain ⟨ok, hok⟩ : ∃ ok, ok = readOk l := ⟨_, rfl⟩
  rw [← hok] at HF
  rw [← hm] at hfit
  have HM := Lib.hid (show readB l = (ok && decide (m.bytes = l)) ∧ (readB l = true → readV l = m) ∧ (readB l = false → readV l = Mk.none) from ⟨by rw [hm, hok]; rfl, fun e => by unfold readV; rw [if_pos e, hm], fun e => by unfold readV; rw [e]; rfl⟩)
  have H0 := Lib.hid (And.intro h (And.intro hg (And.intro h4 (And.intro hfit hof))))
  have HB := Lib.hid (fun W hw => bytes_q m hfit.st hof W hw)
  obtain ⟨L, hL⟩ : ∃ L, L = m.bytes := ⟨_, rfl⟩
  rw [← hL] at HB HM
  obtain ⟨gen, n, done, st, out⟩ := m
  have HC := Lib.hid (And.intro hm (And.intro hok hL))
  clear h hg h4 ha hfit hof hm hok hL hl
  cases ok with
  | false =>
    have e1 : readB l = false := by rw [HM.out.1]; rfl
    rw [HM.out.2.2 e1, e1]
    clear e1
    go_enter Tryz.func38, Tryz.ntmps38
    go_wp2_with fail
    refine HN.out.mono ?_
    rintro e w1 ⟨r, rfl, hr0, hr1, hrd, hb1⟩
    have hs1 := hb1.size
    simp at hr0 hs1
    have H1 := Lib.hid (And.intro hrd (And.intro (HA.out.1.trans (hb1.mono HA.out.1.size)) (And.intro (HA.out.2.2.below hb1) (And.intro hr0 (And.intro hs1 (show w1.heap[w.heap.size]? = some (.cells #[.int .i64 0, .int .i64 0, .bool false, .int .i64 0, .string ⟨#[]⟩] 35) from (hb1.block _ (by simp)).trans (heap_alloc_new w _)))))))
    clear hr0 hr1 hrd hb1 hs1
    go_wp2_with fail
    refine (HF.out r w1 H1.out.1 H1.out.2.2.1 H1.out.2.2.2.2.1 H1.out.2.2.2.1).mono ?_
    rintro e w2 ⟨rfl, hb2⟩
    have H2 := Lib.hid (show Below w.heap.size w w2 ∧ NetP.Glob w2 ∧ w2.heap[w.heap.size]? = some (.cells #[.int .i64 0, .int .i64 0, .bool false, .int .i64 0, .string ⟨#[]⟩] 35) from
      ⟨H1.out.2.1.trans (Below.mono hb2 (by omega)), glob_keep H1.out.2.2.1 hb2 (by have := H0.out.2.2.1; omega), (hb2.block _ (by omega)).trans H1.out.2.2.2.2.2⟩)
    clear hb2
    try simp only [Mk.v]
    obtain ⟨c0, c1, c2, c3, c4⟩ := five_cells H2.out.2.2
    have fz := five_free H2.out.2.2
    have f0 := fz 0
    have f1 := fz 1
    have f2 := fz 2
    have f3 := fz 3
    have f4 := fz 4
    have ne0 := World.new_ne w2 _ c0
    have ne1 := World.new_ne w2 _ c1
    have ne2 := World.new_ne w2 _ c2
    have ne3 := World.new_ne w2 _ c3
    have ne4 := World.new_ne w2 _ c4
    have hlt : w.heap.size < w2.heap.size := (Array.getElem?_eq_some_iff.1 H2.out.2.2).1
    clear fz
    go_wp2_with fail
    have hld := load_mark ((Below.heap_alloc _ (.cells #[.int .i64 gen, .int .i64 n, .bool done, .int .i64 st, .string out] 35) w.heap.size (Array.getElem?_eq_some_iff.1 (five_put H2.out.2.2 (.int .i64 0) (.int .i64 0) (.bool false) (.int .i64 0) (.string ⟨#[]⟩))).1).trans (five_put H2.out.2.2 (.int .i64 0) (.int .i64 0) (.bool false) (.int .i64 0) (.string ⟨#[]⟩)))
    (try simp only [Exit.inBlock, Exit.then])
    refine bodyPost_ret (v := .tuple #[.agg #[.int .i64 0, .int .i64 0, .bool false, .int .i64 0, .string ⟨#[]⟩], .bool false]) ?_ rfl ⟨rfl, (five_set H2.out.1 (Nat.le_refl _) _ _ _ _ _).alloc (by simp [World.setCell]; omega) _⟩
    rw [results_cell_tmp rfl]
    simp [asAddr, Result.andThen, hld]
  | true =>
    go_enter Tryz.func38, Tryz.ntmps38
    go_wp2_with fail
    refine HN.out.mono ?_
    rintro e w1 ⟨r, rfl, hr0, hr1, hrd, hb1⟩
    have hs1 := hb1.size
    simp at hr0 hs1
    have H1 := Lib.hid (And.intro hrd (And.intro (HA.out.1.trans (hb1.mono HA.out.1.size)) (And.intro (HA.out.2.2.below hb1) (And.intro hr0 (And.intro hs1 (show w1.heap[w.heap.size]? = some (.cells #[.int .i64 0, .int .i64 0, .bool false, .int .i64 0, .string ⟨#[]⟩] 35) from (hb1.block _ (by simp)).trans (heap_alloc_new w _)))))))
    clear hr0 hr1 hrd hb1 hs1
    go_wp2_with fail
    refine (HF.out r w1 H1.out.1 H1.out.2.2.1 H1.out.2.2.2.2.1 H1.out.2.2.2.1).mono ?_
    rintro e w2 ⟨rfl, hb2⟩
    have H2 := Lib.hid (show Below w.heap.size w w2 ∧ NetP.Glob w2 ∧ w2.heap[w.heap.size]? = some (.cells #[.int .i64 0, .int .i64 0, .bool false, .int .i64 0, .string ⟨#[]⟩] 35) from
      ⟨H1.out.2.1.trans (Below.mono hb2 (by omega)), glob_keep H1.out.2.2.1 hb2 (by have := H0.out.2.2.1; omega), (hb2.block _ (by omega)).trans H1.out.2.2.2.2.2⟩)
    clear hb2
    try simp only [Mk.v]
    have ham : Below w2.heap.size w2 (w2.alloc (.cells #[.int .i64 gen, .int .i64 n, .bool done, .int .i64 st, .string out] 35)) := (Below.refl _ _).alloc (Nat.le_refl _) _
    have HAM := Lib.hid (And.intro ham (H2.out.2.1.below ham))
    clear ham
    go_wp2_with fail
    refine (HB.out _ HAM.out.2).mono ?_
    rintro e w3 ⟨p3, c3, rfl, ho3, hb3⟩
    have hb23 : Below w2.heap.size w2 w3 := HAM.out.1.trans (hb3.mono HAM.out.1.size)
    have H3 := Lib.hid (show Below w.heap.size w w3 ∧ w3.heap[w.heap.size]? = some (.cells #[.int .i64 0, .int .i64 0, .bool false, .int .i64 0, .string ⟨#[]⟩] 35) ∧ w3.heap[w2.heap.size]? = some (.cells #[.int .i64 gen, .int .i64 n, .bool done, .int .i64 st, .string out] 35) from
      ⟨H2.out.1.trans (hb23.mono H2.out.1.size), (hb23.block _ (Array.getElem?_eq_some_iff.1 H2.out.2.2).1).trans H2.out.2.2, (hb3.block _ (by simp)).trans (heap_alloc_new w2 _)⟩)
    have HE := Lib.hid (NetP.equal_any p3 p L.length c3 l.length c L l w3 ho3.row (H0.out.1.below H3.out.1))
    clear ho3 hb3 hb23
    obtain ⟨eq, heq⟩ : ∃ eq, eq = (L == l) := ⟨_, rfl⟩
    rw [← heq] at HE
    have HM2 := Lib.hid (show readB l = eq from by rw [HM.out.1, heq]; by_cases e : L = l <;> simp [e])
    have hlt : w.heap.size < w3.heap.size := (Array.getElem?_eq_some_iff.1 H3.out.2.1).1
    obtain ⟨c0, c1, c2, c3', c4⟩ := five_cells H3.out.2.1
    have fz := five_free H3.out.2.1
    have f0 := fz 0
    have f1 := fz 1
    have f2 := fz 2
    have f3 := fz 3
    have f4 := fz 4
    obtain ⟨d0, d1, d2, d3, d4⟩ := five_cells H3.out.2.2
    clear fz heq
    cases eq with
    | false =>
      go_wp2_with fail
      refine HE.out.mono ?_
      rintro e w4 ⟨rfl, rfl⟩
      go_wp2_with fail
      have hld := load_mark (five_put H3.out.2.1 (.int .i64 0) (.int .i64 0) (.bool false) (.int .i64 0) (.string ⟨#[]⟩))
      (try simp only [Exit.inBlock, Exit.then])
      refine bodyPost_ret (v := .tuple #[.agg #[.int .i64 0, .int .i64 0, .bool false, .int .i64 0, .string ⟨#[]⟩], .bool false]) ?_ rfl ⟨by rw [HM.out.2.2 HM2.out, HM2.out]; rfl, five_set H3.out.1 (Nat.le_refl _) _ _ _ _ _⟩
      rw [results_cell_tmp rfl]
      simp [asAddr, Result.andThen, hld]
    | true =>
      go_wp2_with fail
      refine HE.out.mono ?_
      rintro e w4 ⟨rfl, rfl⟩
      go_wp2_with fail
      have hld := load_mark (five_put H3.out.2.1 (.int .i64 gen) (.int .i64 n) (.bool done) (.int .i64 st) (.string out))
      (try simp only [Exit.inBlock, Exit.then])
      refine bodyPost_ret (v := .tuple #[.agg #[.int .i64 gen, .int .i64 n, .bool done, .int .i64 st, .string out], .bool true]) ?_ rfl ⟨by rw [HM.out.2.1 HM2.out, HM2.out]; rfl, five_set H3.out.1 (Nat.le_refl _) _ _ _ _ _⟩
      rw [results_cell_tmp rfl]
      simp [asAddr, Result.andThen, hld]
end Go.Proofs.YtilplpjdbkipoaaGreatDoor
