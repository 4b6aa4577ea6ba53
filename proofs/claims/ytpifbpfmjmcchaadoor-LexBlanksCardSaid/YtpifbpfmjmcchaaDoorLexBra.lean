/-
  Proved: the contract of braces, of whatever parts within. Conditions: the reader lies in memory.
-/
import Derived.Test.YtpifbpfmjmcchaaDoorLexOper
namespace Go.Proofs.YtpifbpfmjmcchaaDoor
open Go Go.RowKit GlyphMath LexMath

set_option maxHeartbeats 400000 in
set_option maxRecDepth 100000 in
theorem braces_lim (f : List Nat → Res (List Pt)) : BraceDo 20 (bracesM true f) := by
  intro w X G sz xs h
  have HX := Lib.hid h.lt
  clear h
  go_enter Tryd.func70, Tryd.ntmps70
  go_wp2_with fail
  (try simp only [Exit.inBlock, Exit.then])
  refine bodyPost_ret (ret_part rfl (heap_alloc_new w _) rfl rfl) rfl ?_
  exact ⟨.inr rfl, ⟨⟨0, [], [], [], false⟩, rfl⟩, Kept.of_below ((Below.refl _ w).alloc (Nat.le_refl _) _)⟩

def closeEnd (p : Pt) (m : Option (List Nat)) : Res Pt :=
  match m with
  | some r => .ok (p, r)
  | none => .error 2
theorem close_is (p : Pt) (xs : List Nat) : closeM p xs = closeEnd p (takes [125] xs) := by
  unfold closeM closeEnd
  cases takes [125] xs <;> rfl
theorem brace_error {f : List Nat → Res (List Pt)} {xs : List Nat} {c : Nat} (h : parameterM xs = .error c) : bracesM false f xs = .error c := by
  unfold bracesM
  rw [if_neg (by decide), h]
theorem brace_close {f : List Nat → Res (List Pt)} {xs l r : List Nat} (h : parameterM xs = .ok (l, r)) (hn : next r = 125) : bracesM false f xs = .ok (⟨2, enc l, [], [], false⟩, r.tail) := by
  unfold bracesM
  rw [if_neg (by decide), h]
  simp only
  rw [if_pos hn, close_is, takes_one, if_pos ⟨hn, fun e => by rw [e] at hn; cases hn⟩]
  rfl
theorem brace_oper {f : List Nat → Res (List Pt)} {xs l r : List Nat} {c : Nat} (h : parameterM xs = .ok (l, r)) (hn : next r ≠ 125) (ho : operationM f l r = .error c) : bracesM false f xs = .error c := by
  unfold bracesM
  rw [if_neg (by decide), h]
  simp only
  rw [if_neg hn, ho]
theorem brace_end {f : List Nat → Res (List Pt)} {xs l r r' : List Nat} {p : Pt} (h : parameterM xs = .ok (l, r)) (hn : next r ≠ 125) (ho : operationM f l r = .ok (p, r')) : bracesM false f xs = closeEnd p (takes [125] r') := by
  unfold bracesM
  rw [if_neg (by decide), h]
  simp only
  rw [if_neg hn, ho]
  exact close_is _ _

set_option maxHeartbeats 400000 in
set_option maxRecDepth 100000 in
theorem braces_any {depth : Nat} {f : List Nat → Res (List Pt)} (hP : PartsDo (depth + 1) f) (hd : depth < 20) : BraceDo depth (bracesM false f) := by
  intro w X G sz xs h
  have hr0 : Rd (w.alloc ZB) X G sz xs := h.below ((Below.refl _ w).alloc (Nat.le_refl _) _)
  have HX := Lib.hid h.lt
  have HPA := Lib.hid (parameter_any hr0)
  obtain ⟨m, hm⟩ : ∃ m, parameterM xs = m := ⟨_, rfl⟩
  rw [hm] at HPA
  have HM := Lib.hid hm
  have hdi : ¬ (20 : Int) ≤ (depth : Int) := by omega
  have HD := Lib.hid hd
  have HP := Lib.hid hP
  have base : ∀ w', Kept (fun k => k = X) (w.alloc ZB) w' → w'.heap[w.heap.size]? = some ZB ∧ Kept (fun k => k = X) w w' := fun w' k =>
    ⟨k.heap (heap_alloc_new w ZB) (fun e => by have := h.lt.1; omega), (Kept.of_below ((Below.refl _ w).alloc (Nat.le_refl _) ZB)).on k⟩
  have HBASE := Lib.hid base
  clear h hr0 hm hP hd base
  cases m with
  | error cc =>
    go_enter Tryd.func70, Tryd.ntmps70
    go_wp2_with fail
    refine HPA.out.mono ?_
    rintro e w1 ⟨hcc, rfl, hk1⟩
    rw [show partV ⟨0, [], [], [], false⟩ zeroV = .agg #[.int .i64 0, .string ⟨#[]⟩, .string ⟨#[]⟩, .slice none 0 0, .bool false] from rfl]
    obtain ⟨v1, kw⟩ := HBASE.out w1 hk1
    have hlt : w.heap.size < w1.heap.size := (Array.getElem?_eq_some_iff.1 v1).1
    obtain ⟨x0, x1, x2, x3, x4⟩ := five_cells v1
    have g0 := five_free v1 0
    have g1 := five_free v1 1
    have g2 := five_free v1 2
    have g3 := five_free v1 3
    have g4 := five_free v1 4
    have HV := Lib.hid (And.intro v1 (And.intro kw (And.intro hcc hlt)))
    clear v1 kw hk1 hcc
    go_wp2_with fail
    (try simp only [Exit.inBlock, Exit.then])
    obtain ⟨v1, kw, hcc, hlt⟩ := HV.out
    subst hcc
    refine bodyPost_ret (ret_part rfl ((Below.heap_alloc _ _ _ (by simp [World.setCell]; omega)).trans (five_put v1 _ _ _ _ _)) rfl rfl) rfl ?_
    rw [brace_error HM.out]
    refine ⟨.inl rfl, ⟨⟨0, [], [], [], false⟩, rfl⟩, ?_⟩
    exact (kw.trans (five_kept (D := fun k => w.heap.size ≤ k) (Kept.refl _ _) (.inl (Nat.le_refl _)) _ _ _ _ _) (fun _ h => .inr h)).alloc _
  | ok b =>
    obtain ⟨l, r⟩ := b
    by_cases hn : next r = 125
    · go_enter Tryd.func70, Tryd.ntmps70
      go_wp2_with fail
      refine HPA.out.mono ?_
      rintro e w1 ⟨rfl, hs1, hgl⟩
      obtain ⟨T, hT⟩ : ∃ T : ByteArray, txt (enc l) = .string T := ⟨_, rfl⟩
      rw [show partV ⟨2, enc l, [], [], false⟩ zeroV = .agg #[.int .i64 2, .string T, .string ⟨#[]⟩, .slice none 0 0, .bool false] by rw [partV, hT]; rfl]
      obtain ⟨v1, kw⟩ := HBASE.out w1 hs1.2
      have hlt : w.heap.size < w1.heap.size := (Array.getElem?_eq_some_iff.1 v1).1
      have hr2 : Rd (w1.alloc (VB T ⟨#[]⟩)) X G sz r := hs1.1.below ((Below.refl _ w1).alloc (Nat.le_refl _) _)
      have HN := Lib.hid (show _ from by have := next_any hr2; rw [hn] at this; exact this)
      have HTK := Lib.hid (takesM hr2 ⟨#[125]⟩ [125] rfl (by decide) (m := some r.tail) (by rw [takes_one, if_pos ⟨hn, fun e => by rw [e] at hn; cases hn⟩]))
      have HW := Lib.hid (brace_close (f := f) HM.out hn)
      have HV := Lib.hid (And.intro v1 (And.intro kw (And.intro hs1 (And.intro hT hlt))))
      clear v1 kw hs1 hT hgl hr2 hn
      go_wp2_with (first
        | (go_at_call 26; refine HN.out.mono ?_; rintro e w2 ⟨rfl, rfl⟩; simp only [VB])
        | (go_at_call 42; refine HTK.out.mono ?_; rintro e w2 ⟨rfl, hs2⟩; simp only [Option.getD_some] at hs2; have HS2 := Lib.hid hs2; have v2 := hs2.2.heap ((Below.heap_alloc _ _ _ hlt).trans HV.out.1) (fun e => by have := HX.out.1; omega); have v3 := hs2.2.heap (heap_alloc_new w1 (VB T ⟨#[]⟩)) (fun e => by have := HX.out.1; omega); obtain ⟨x0, x1, x2, x3, x4⟩ := five_cells v2; have g0 := five_free v2 0; have g1 := five_free v2 1; have g2 := five_free v2 2; have g3 := five_free v2 3; have g4 := five_free v2 4; obtain ⟨d0, d1, d2, d3, d4⟩ := five_cells v3; have HY := Lib.hid v2; clear v2 v3 hs2))
      (try simp only [Exit.inBlock, Exit.then])
      obtain ⟨v1, kw, hs1, hT, hlt⟩ := HV.out
      have hx := HX.out
      refine bodyPost_ret (ret_part rfl (five_put HY.out _ _ _ _ _) rfl rfl) rfl ?_
      rw [HW.out]
      refine ⟨zeroV, by rw [partV, hT]; rfl, WordN.nil _ _, HS2.out.1.five (by omega) (by omega) _ _ _ _ _, ?_⟩
      exact ((kw.on (Kept.of_below ((Below.refl _ w1).alloc (Nat.le_refl _) _))).on HS2.out.2).trans (five_kept (D := fun k => w.heap.size ≤ k) (Kept.refl _ _) (.inl (Nat.le_refl _)) _ _ _ _ _) (fun _ h => .inr h)
    · obtain ⟨mo, hmo⟩ : ∃ mo, operationM f l r = mo := ⟨_, rfl⟩
      cases mo with
      | error cc =>
        go_enter Tryd.func70, Tryd.ntmps70
        go_wp2_with fail
        refine HPA.out.mono ?_
        rintro e w1 ⟨rfl, hs1, hgl⟩
        obtain ⟨T, hT⟩ : ∃ T : ByteArray, txt (enc l) = .string T := ⟨_, rfl⟩
        rw [show partV ⟨2, enc l, [], [], false⟩ zeroV = .agg #[.int .i64 2, .string T, .string ⟨#[]⟩, .slice none 0 0, .bool false] by rw [partV, hT]; rfl]
        obtain ⟨v1, kw⟩ := HBASE.out w1 hs1.2
        have hlt : w.heap.size < w1.heap.size := (Array.getElem?_eq_some_iff.1 v1).1
        have hr2 : Rd (w1.alloc (VB T ⟨#[]⟩)) X G sz r := hs1.1.below ((Below.refl _ w1).alloc (Nat.le_refl _) _)
        have HN := Lib.hid (next_any hr2)
        have hop := operation_any HP.out (by have := HD.out; omega) hr2 hgl T hT
        rw [hmo] at hop
        have HOP := Lib.hid hop
        have HV := Lib.hid (And.intro v1 (And.intro kw (And.intro hs1 (And.intro hT hlt))))
        have HMO := Lib.hid hmo
        have HNN := Lib.hid hn
        obtain ⟨y, hy⟩ : ∃ y, next r = y := ⟨_, rfl⟩
        rw [hy] at HN
        have hy1 : ((y : Int) != 125) = true := by
          have : ¬ (y : Int) = 125 := by omega
          simpa using this
        clear v1 kw hs1 hT hgl hr2 hn hop hmo hy
        go_wp2_with (go_at_call 26; refine HN.out.mono ?_; rintro e w2 ⟨rfl, rfl⟩; simp only [VB])
        refine HOP.out.mono ?_
        rintro e w3 ⟨hcc, ⟨p, rfl⟩, hk3⟩
        obtain ⟨T1, hT1⟩ : ∃ T : ByteArray, txt p.text = .string T := ⟨_, rfl⟩
        obtain ⟨T2, hT2⟩ : ∃ T : ByteArray, txt p.op = .string T := ⟨_, rfl⟩
        rw [show partV p zeroV = .agg #[.int .i64 p.kind, .string T1, .string T2, .slice none 0 0, .bool p.q] by rw [partV, hT1, hT2]; rfl]
        have hx := HX.out
        have v2 := hk3.heap ((Below.heap_alloc _ _ _ hlt).trans HV.out.1) (fun e => by omega)
        have v3 := hk3.heap (heap_alloc_new w1 (VB T ⟨#[]⟩)) (fun e => by omega)
        have H3 := Lib.hid (And.intro v3 (And.intro v2 (And.intro hcc hk3)))
        have hc0 : (((cc : Nat) : Int) == 0) = false := by rcases hcc with rfl | rfl <;> rfl
        have hc1 : (((cc : Nat) : Int) != 0) = true := by rcases hcc with rfl | rfl <;> rfl
        clear v2 v3 hk3 hcc hx hT1 hT2
        go_wp2_with (refine wpList_store_mid (by rfl) 25 (.tmp 6) (.tmp 28) (by rfl) w1.heap.size 0 #[.int .i64 p.kind, .string T1, .string T2, .slice none 0 0, .bool p.q] (by rfl) (by rfl) (five_there H3.out.1) part_info (by simp [Value.oneCell']) ?_; obtain ⟨w4, hw4⟩ : ∃ w4, w4 = w3.setCells w1.heap.size 0 (#[.int .i64 p.kind, .string T1, .string T2, .slice none 0 0, .bool p.q] : Array Value).toList := ⟨_, rfl⟩; rw [← hw4]; obtain ⟨y1, y2, y3⟩ := five_stored H3.out.1 hw4; have y4 := (y3 w.heap.size (by omega)).trans H3.out.2.1; obtain ⟨x0, x1, x2, x3, x4⟩ := five_cells y4; have g0 := five_free y4 0; have g1 := five_free y4 1; have g2 := five_free y4 2; have g3 := five_free y4 3; have g4 := five_free y4 4; have HY := Lib.hid (And.intro y1 (And.intro y2 y4)); clear y1 y2 y3 y4 hw4)
        (try simp only [Exit.inBlock, Exit.then])
        obtain ⟨y1, y2, y4⟩ := HY.out
        obtain ⟨v3, v2, hcc, hk3⟩ := H3.out
        refine bodyPost_ret (ret_part rfl (five_put y4 _ _ _ _ _) rfl rfl) rfl ?_
        rw [brace_oper HM.out HNN.out HMO.out]
        refine ⟨hcc, ⟨⟨0, [], [], [], false⟩, rfl⟩, ?_⟩
        exact (((HV.out.2.1.on (Kept.of_below ((Below.refl _ w1).alloc (Nat.le_refl _) _))).on hk3).trans y2 (fun i e => .inr (by omega))).trans (five_kept (D := fun k => w.heap.size ≤ k) (Kept.refl _ _) (.inl (Nat.le_refl _)) _ _ _ _ _) (fun _ h => .inr h)
      | ok bb =>
        obtain ⟨p, r'⟩ := bb
        obtain ⟨mt, hmt⟩ : ∃ mt, takes [125] r' = mt := ⟨_, rfl⟩
        cases mt
        all_goals
          go_enter Tryd.func70, Tryd.ntmps70
          go_wp2_with fail
          refine HPA.out.mono ?_
          rintro e w1 ⟨rfl, hs1, hgl⟩
          obtain ⟨T, hT⟩ : ∃ T : ByteArray, txt (enc l) = .string T := ⟨_, rfl⟩
          rw [show partV ⟨2, enc l, [], [], false⟩ zeroV = .agg #[.int .i64 2, .string T, .string ⟨#[]⟩, .slice none 0 0, .bool false] by rw [partV, hT]; rfl]
          obtain ⟨v1, kw⟩ := HBASE.out w1 hs1.2
          have hlt : w.heap.size < w1.heap.size := (Array.getElem?_eq_some_iff.1 v1).1
          have hr2 : Rd (w1.alloc (VB T ⟨#[]⟩)) X G sz r := hs1.1.below ((Below.refl _ w1).alloc (Nat.le_refl _) _)
          have HN := Lib.hid (next_any hr2)
          have hop := operation_any HP.out (by have := HD.out; omega) hr2 hgl T hT
          rw [hmo] at hop
          have HOP := Lib.hid hop
          have HV := Lib.hid (And.intro v1 (And.intro kw (And.intro hs1 (And.intro hT hlt))))
          have HMO := Lib.hid hmo
          have HNN := Lib.hid hn
          obtain ⟨y, hy⟩ : ∃ y, next r = y := ⟨_, rfl⟩
          rw [hy] at HN
          have hy1 : ((y : Int) != 125) = true := by
            have : ¬ (y : Int) = 125 := by omega
            simpa using this
          clear v1 kw hs1 hT hgl hr2 hn hop hmo hy
          go_wp2_with (go_at_call 26; refine HN.out.mono ?_; rintro e w2 ⟨rfl, rfl⟩; simp only [VB])
          refine HOP.out.mono ?_
          rintro e w3 ⟨u, rfl, hwn, hr3, hk3⟩
          obtain ⟨T1, hT1⟩ : ∃ T : ByteArray, txt p.text = .string T := ⟨_, rfl⟩
          obtain ⟨T2, hT2⟩ : ∃ T : ByteArray, txt p.op = .string T := ⟨_, rfl⟩
          obtain ⟨ad, cp, hu⟩ := hwn.shape
          obtain ⟨np, hnp⟩ : ∃ np, p.word.length = np := ⟨_, rfl⟩
          rw [hnp] at hu
          subst hu
          rw [show partV p (.slice ad np cp) = .agg #[.int .i64 p.kind, .string T1, .string T2, .slice ad np cp, .bool p.q] by rw [partV, hT1, hT2]]
          have hx := HX.out
          have v2 := hk3.heap ((Below.heap_alloc _ _ _ hlt).trans HV.out.1) (fun e => by omega)
          have v3 := hk3.heap (heap_alloc_new w1 (VB T ⟨#[]⟩)) (fun e => by omega)
          have H3 := Lib.hid (And.intro v3 (And.intro v2 (And.intro hwn (And.intro hr3 hk3))))
          have HTT := Lib.hid (And.intro hT1 hT2)
          have HMT := Lib.hid hmt
          clear v2 v3 hk3 hwn hr3 hx hT1 hT2 hnp hmt
          go_wp2_with (first
            | (refine wpList_store_mid (by rfl) 25 (.tmp 6) (.tmp 28) (by rfl) w1.heap.size 0 #[.int .i64 p.kind, .string T1, .string T2, .slice ad np cp, .bool p.q] (by rfl) (by rfl) (five_there H3.out.1) part_info (by simp [Value.oneCell']) ?_; obtain ⟨w4, hw4⟩ : ∃ w4, w4 = w3.setCells w1.heap.size 0 (#[.int .i64 p.kind, .string T1, .string T2, .slice ad np cp, .bool p.q] : Array Value).toList := ⟨_, rfl⟩; rw [← hw4]; obtain ⟨y1, y2, y3⟩ := five_stored H3.out.1 hw4; have y4 := (y3 w.heap.size (by omega)).trans H3.out.2.1; have hr4 : Rd w4 X G sz r' := H3.out.2.2.2.1.kept y2 (by have := HX.out.1; omega) (by have := HX.out.2; omega); have HY := Lib.hid (And.intro y1 (And.intro y2 (And.intro y4 hr4))); have HTK := Lib.hid (takesM hr4 ⟨#[125]⟩ [125] rfl (by decide) HMT.out); clear y1 y2 y3 y4 hw4 hr4)
            | (go_at_call 42; refine HTK.out.mono ?_; rintro e w5 ⟨rfl, hs5⟩; have HS5 := Lib.hid hs5; have z2 := hs5.2.heap HY.out.2.2.1 (fun e => by have := HX.out.1; omega); have z3 := hs5.2.heap HY.out.1 (fun e => by have := HX.out.1; omega); obtain ⟨x0, x1, x2, x3, x4⟩ := five_cells z2; have g0 := five_free z2 0; have g1 := five_free z2 1; have g2 := five_free z2 2; have g3 := five_free z2 3; have g4 := five_free z2 4; obtain ⟨d0, d1, d2, d3, d4⟩ := five_cells z3; have HZ := Lib.hid z2; clear z2 z3 hs5))
          (try simp only [Exit.inBlock, Exit.then])
          obtain ⟨y1, y2, y4, hr4⟩ := HY.out
          obtain ⟨v3, v2, hwn, hr3, hk3⟩ := H3.out
          have hx := HX.out
          have hk5 := ((((HV.out.2.1.on (Kept.of_below ((Below.refl _ w1).alloc (Nat.le_refl _) _))).on hk3).trans y2 (fun i e => .inr (by omega))).on HS5.out.2)
          refine bodyPost_ret (ret_part rfl (five_put HZ.out _ _ _ _ _) rfl rfl) rfl ?_
          rw [brace_end HM.out HNN.out HMO.out, HMT.out]
        · exact ⟨.inl rfl, ⟨⟨0, [], [], [], false⟩, rfl⟩, hk5.trans (five_kept (D := fun k => w.heap.size ≤ k) (Kept.refl _ _) (.inl (Nat.le_refl _)) _ _ _ _ _) (fun _ h => .inr h)⟩
        · have hsz : (w1.alloc (VB T ⟨#[]⟩)).heap.size = w1.heap.size + 1 := by simp
          rw [hsz] at hwn
          have k1 := hwn.kept y2 (fun k hk e => by omega)
          have k2 := k1.kept HS5.out.2 (fun k hk e => by omega)
          have k3 := k2.kept (five_kept (D := fun k => k = w.heap.size) (Kept.refl _ w5) (.inl rfl) (.int .i64 p.kind) (.string T1) (.string T2) (.slice ad np cp) (.bool p.q)) (fun k hk e => by omega)
          exact ⟨.slice ad np cp, by rw [partV, HTT.out.1, HTT.out.2]; rfl, k3.base (by omega), HS5.out.1.five (by omega) (by omega) _ _ _ _ _, hk5.trans (five_kept (D := fun k => w.heap.size ≤ k) (Kept.refl _ _) (.inl (Nat.le_refl _)) _ _ _ _ _) (fun _ h => .inr h)⟩
end Go.Proofs.YtpifbpfmjmcchaaDoor
