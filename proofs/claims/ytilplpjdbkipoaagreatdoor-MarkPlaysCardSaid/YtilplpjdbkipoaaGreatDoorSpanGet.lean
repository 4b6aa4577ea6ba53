/-
  Proved: span's Get answers what its model does, in new memory. No conditions but the disk's.
-/
import Derived.Test.YtilplpjdbkipoaaGreatDoorSpanRead
import Derived.Deep.QuietTactic
import Derived.Deep.RegionHeld
import Derived.BigQuiet
namespace Go.Proofs.YtilplpjdbkipoaaGreatDoor
open Go Go.RowKit DiskMath NetMem SpanMath SumMath

set_option maxHeartbeats 2000000 in
set_option maxRecDepth 100000 in
theorem get_q (b o n c : Nat) (l : List UInt8) (w : World) (h : Row w (.slice (some ⟨b, o, none⟩) n c) l) (h4 : 4 ≤ l.length) :
    Calls Tryz.prog 75 #[.slice (some ⟨b, o, none⟩) n c] w fun e w' => e = .returned (.int .u32 (getB l : Nat)) ∧ ∃ m, w' = w.drewN m := by
  obtain ⟨rfl, h1, h2, -⟩ := Row.nums h
  have hc := Row.range h (by omega)
  unfold maxLen at h2
  obtain ⟨c0, c1, c2, c3, r, rfl⟩ : ∃ c0 c1 c2 c3 r, l = c0 :: c1 :: c2 :: c3 :: r := by
    match l, h4 with
    | c0 :: c1 :: c2 :: c3 :: r, _ => exact ⟨c0, c1, c2, c3, r, rfl⟩
  have d0 := hc 0 (by simp)
  have d1 := hc 1 (by simp)
  have d2 := hc 2 (by simp)
  have d3 := hc 3 (by simp)
  simp only [List.getElem_cons_zero, List.getElem_cons_succ, Nat.add_zero] at d0 d1 d2 d3
  obtain ⟨n, hn⟩ : ∃ n, n = (c0 :: c1 :: c2 :: c3 :: r).length := ⟨_, rfl⟩
  rw [← hn] at h1 h4 ⊢
  have b0 := c0.toNat_lt
  have b1 := c1.toNat_lt
  have b2 := c2.toNat_lt
  have b3 := c3.toNat_lt
  clear hc hn h
  go_enter Tryz.func75, Tryz.ntmps75
  go_wp2_with fail
  go_quiet (fail)
  go_wp2
  go_ret
  exact ⟨by rw [four_join]; rfl, _, rfl⟩

theorem row_drop {w : World} {b o n c : Nat} {l : List UInt8} (h : Row w (.slice (some ⟨b, o, none⟩) n c) l) (k : Nat) (hk : k < n) : Row w (.slice (some ⟨b, o + k, none⟩) (n - k) (c - k)) (l.drop k) := by
  obtain ⟨rfl, h1, h2, -⟩ := Row.nums h
  refine ⟨_, c - k, by rw [List.length_drop], by rw [List.length_drop]; omega, by omega, fun _ => ⟨b, o + k, rfl, fun i hi => ?_⟩⟩
  rw [List.length_drop] at hi
  rw [Nat.add_assoc, List.getElem_drop]
  exact Row.range h (by omega) _ _
theorem row_drewN {w : World} {v : Value} {l : List UInt8} (h : Row w v l) (n : Nat) : Row (w.drewN n) v l := h.keep fun _ _ _ hc => hc

/-- Nothing that was there has turned since. -/
def SinceS (w W : World) : Prop := Below w.heap.size w W
theorem SinceS.alloc {w W : World} (h : SinceS w W) (o : Obj) : SinceS w (W.alloc o) := Below.alloc h h.size o

/-- What Get answers. -/
def gTag (o : Option (Nat × List UInt8)) : Nat := (o.getD (0, [])).1
def gBytes (o : Option (Nat × List UInt8)) : List UInt8 := (o.getD (0, [])).2

set_option maxHeartbeats 1000000 in
theorem get_out {w : World} {D : Nat → Prop} {p : Value} {d : Dk} (h : DiskAt w D p d) (at_ room : Int) (hi : d.has at_ = false) :
    Calls Tryz.prog 54 #[p, .int .i64 at_, .int .i64 room] w fun e w' => e = .returned (.tuple #[.int .u32 0, .slice none 0 0, .bool false]) ∧ w = w' := by
  obtain ⟨g, s, pv, lv, rfl, hm, -⟩ := h
  have HR := Lib.hid (read_out g s pv lv d at_ w hm hi)
  have q := fun (w : World) (a : Option Addr) (n c n' c' : Nat) => Lib.run_eql_slice_nil (P := Tryz.prog) w _ _ a n c n' c' Tryz.underlying56
  clear hm hi
  go_enter Tryz.func54, Tryz.ntmps54
  go_wp2_with fail
  refine HR.out.mono ?_
  rintro e w1 ⟨rfl, rfl⟩
  go_wp2_with fail
  go_ret3
  exact ⟨rfl, rfl⟩

/-- What is read of a sector that is there. -/
theorem read_some {w : World} {D : Nat → Prop} {p : Value} {d : Dk} (h : DiskAt w D p d) (a : Nat) (ha : a < d.s.length) :
    Calls Tryz.prog 74 #[p, .int .i64 (a : Int)] w fun e w' => ∃ g cap, e = .returned (.slice (some ⟨g, 0, none⟩) 16 cap) ∧ 16 ≤ cap ∧ cap ≤ maxLen ∧ Row w' (.slice (some ⟨g, 0, none⟩) 16 cap) (d.read (a : Int)) ∧ Below w.heap.size w w' := by
  have hlen : (d.read (a : Int)).length = 16 := by
    rw [read_la d a ha]
    unfold la
    rw [List.getElem?_eq_getElem ha, Option.getD_some]
    exact (h.secs.1 _ (List.getElem_mem ha)).2
  refine (read_at h (a : Int)).mono fun e w' ⟨v, he, ho, hb⟩ => ?_
  rcases id ho with ⟨-, h0⟩ | ⟨g, cap, rfl, -, -, h1, h2, -, -⟩
  · rw [h0] at hlen; simp at hlen
  · have hr := ho.row
    rw [hlen] at hr h1 he
    exact ⟨g, cap, he, h1, h2, hr, hb⟩

def GetSaid (o : Option (Nat × List UInt8)) (w : World) (e : Ending) (w' : World) : Prop :=
  ∃ v, e = .returned (.tuple #[.int .u32 (gTag o : Int), v, .bool o.isSome]) ∧ NetMem.Own w' w.heap.size v (gBytes o) ∧ Below w.heap.size w w'
theorem getSaid_none {o : Option (Nat × List UInt8)} {w w' : World} (h : o = none) (hb : Below w.heap.size w w') : GetSaid o w (.returned (.tuple #[.int .u32 0, .slice none 0 0, .bool false])) w' := by
  subst h
  exact ⟨_, rfl, NetMem.Own.nil _ _, hb⟩
theorem getSaid_some {o : Option (Nat × List UInt8)} {w w' : World} {T : Nat} {B : List UInt8} {v : Value} (h : o = some (T, B)) (ho : NetMem.Own w' w.heap.size v B) (hb : Below w.heap.size w w') : GetSaid o w (.returned (.tuple #[.int .u32 (T : Int), v, .bool true])) w' := by
  subst h
  exact ⟨_, rfl, ho, hb⟩
theorem getB_lt (l : List UInt8) : getB l < 4294967296 := by
  unfold getB
  split
  · rename_i a b c d _
    have := a.toNat_lt; have := b.toNat_lt; have := c.toNat_lt; have := d.toNat_lt
    omega
  · omega
theorem below_drew (B : Nat) (w : World) : Below B w w.drew := ⟨rfl, rfl, rfl, Nat.le_refl _, fun _ _ => rfl⟩
theorem below_drewN (B : Nat) (w : World) (n : Nat) : Below B w (w.drewN n) := ⟨rfl, rfl, rfl, Nat.le_refl _, fun _ _ => rfl⟩

theorem get_since {w W : World} {b o n c : Nat} {l : List UInt8} (h : Row w (.slice (some ⟨b, o, none⟩) n c) l) (hs : SinceS w W) (h4 : 4 ≤ l.length) :
    Calls Tryz.prog 75 #[.slice (some ⟨b, o, none⟩) n c] W fun e w' => e = .returned (.int .u32 (getB l : Nat)) ∧ SinceS w w' :=
  (get_q b o n c l W (h.below hs) h4).mono fun e w' ⟨he, m, hm⟩ => ⟨he, by subst hm; exact Below.trans hs (below_drewN _ _ _)⟩
theorem of_since {w : World} {q : Option Addr} {n c : Nat} {l : List UInt8} (h : Row w (.slice q n c) l) :
    Calls Tryz.prog 70 #[.slice (some ⟨w.heap.size, 0, none⟩) 1 1] (w.alloc (.cells #[.slice q n c] 56)).drew fun e w' => e = .returned (.int .u32 (sumOf l : Nat)) ∧ SinceS w w' :=
  (of_one (some ⟨w.heap.size, 0, none⟩) 1 l _ ((RowsAt.lit w 56 q n c l h w.heap.size rfl).below (below_drew _ _))).mono fun e w' ⟨he, hw⟩ => ⟨he, by subst hw; exact ((Below.refl _ w).alloc (Nat.le_refl _) _).drew⟩

/-- What the law's words are at a sector that is there. -/
theorem get_model (d : Dk) (a : Nat) (room : Int) (ha : a < d.s.length) {l B : List UInt8} {T AG SZ SM : Nat} (hl : l = d.read (a : Int)) (hT : T = getB l) (hA : AG = getB (l.drop 12)) (hZ : SZ = getB (l.drop 4)) (hM : SM = getB (l.drop 8)) (hB : B = (gather d (a : Int) (cnt SZ)).take SZ) :
    spanGet d (a : Int) room = if T = 0 ∨ T ≠ AG then none else if min room ((d.s.length : Int) - (a : Int)) < (need SZ : Int) then none else if sumOf B ≠ SM then none else some (T, B) := by
  unfold spanGet
  rw [if_neg (by simp [Dk.has, ha]), ← hl, ← hT, ← hA, ← hZ, ← hM, ← hB]

set_option maxHeartbeats 4000000 in
set_option maxRecDepth 100000 in
theorem get_in {w : World} {D : Nat → Prop} {p : Value} {d : Dk} (h : DiskAt w D p d) (a : Nat) (room : Int) (ha : a < d.s.length) :
    Calls Tryz.prog 54 #[p, .int .i64 (a : Int), .int .i64 room] w (GetSaid (spanGet d (a : Int) room) w) := by
  have HR := Lib.hid (read_some h a ha)
  obtain ⟨l, hl⟩ : ∃ l, l = d.read (a : Int) := ⟨_, rfl⟩
  have hlen : l.length = 16 := by
    rw [hl, read_la d a ha]
    unfold la
    rw [List.getElem?_eq_getElem ha, Option.getD_some]
    exact (h.secs.1 _ (List.getElem_mem ha)).2
  obtain ⟨T, hT⟩ : ∃ T, T = getB l := ⟨_, rfl⟩
  obtain ⟨AG, hA⟩ : ∃ T, T = getB (l.drop 12) := ⟨_, rfl⟩
  obtain ⟨SZ, hZ⟩ : ∃ T, T = getB (l.drop 4) := ⟨_, rfl⟩
  obtain ⟨SM, hM⟩ : ∃ T, T = getB (l.drop 8) := ⟨_, rfl⟩
  obtain ⟨B, hB⟩ : ∃ B, B = (gather d (a : Int) (cnt SZ)).take SZ := ⟨_, rfl⟩
  have hmod := get_model d a room ha hl hT hA hZ hM hB
  have bT : (T : Int) < 4294967296 := by have := getB_lt l; omega
  have bA : (AG : Int) < 4294967296 := by have := getB_lt (l.drop 12); omega
  have bZ : (SZ : Int) < 4294967296 := by have := getB_lt (l.drop 4); omega
  have bM : (SM : Int) < 4294967296 := by have := getB_lt (l.drop 8); omega
  have hN4 := h.secs.2
  obtain ⟨N, hN⟩ : ∃ N, N = d.s.length := ⟨_, rfl⟩
  rw [← hN] at hmod ha hN4
  have HM := Lib.hid hmod
  have HD := Lib.hid (And.intro h (And.intro hN hB))
  have HL := Lib.hid (And.intro hl (And.intro hlen (And.intro hT (And.intro hA (And.intro hZ hM)))))
  clear h hl hlen hmod hN hB hT hA hZ hM
  go_enter Tryz.func54, Tryz.ntmps54
  go_wp2_with fail
  refine HR.out.mono ?_
  rintro e w1 ⟨g, cap, rfl, hc1, hc2, hr, hb⟩
  rw [← HL.out.1] at hr
  unfold maxLen at hc2
  have hl12 : 4 ≤ (l.drop 12).length := by rw [List.length_drop, HL.out.2.1]; omega
  have hl8 : 4 ≤ (l.drop 8).length := by rw [List.length_drop, HL.out.2.1]; omega
  have hl4 : 4 ≤ (l.drop 4).length := by rw [List.length_drop, HL.out.2.1]; omega
  have hl0 : 4 ≤ l.length := by rw [HL.out.2.1]; omega
  have G0 := Lib.hid (fun n => get_q g 0 16 cap l _ (row_drewN (w := w1) hr n) hl0)
  have G4 := Lib.hid (fun n => get_q g 4 12 (cap - 4) (l.drop 4) _ (by have := row_drewN (w := w1) (row_drop hr 4 (by omega)) n; rwa [Nat.zero_add] at this) hl4)
  rw [← HL.out.2.2.1] at G0
  rw [← HL.out.2.2.2.2.1] at G4
  have HB := Lib.hid (And.intro hr hb)
  have HLL := Lib.hid (And.intro hl12 hl8)
  clear hr hb hl12 hl8 hl4 hl0
  have q := fun (w : World) (a : Option Addr) (n c n' c' : Nat) => Lib.run_eql_slice_nil (P := Tryz.prog) w _ _ a n c n' c' Tryz.underlying56
  go_wp2_with fail
  clear q
  go_quiet ((go_at_call 75; exact Calls.quiet_of (by first | (with_reducible exact G0.out _) | (with_reducible exact G4.out _))))
  obtain ⟨w2, hw2⟩ : ∃ w2, w2 = w1.drewN nq := ⟨_, rfl⟩
  have hr2 : Row w2 (.slice (some ⟨g, 0, none⟩) 16 cap) l := by rw [hw2]; exact row_drewN HB.out.1 _
  have hb2 : Below w.heap.size w w2 := by rw [hw2]; exact HB.out.2.trans (below_drewN _ _ _)
  rw [← hw2]
  have H2 := Lib.hid (And.intro hr2 hb2)
  have G12 := Lib.hid (get_q g 12 4 (cap - 12) (l.drop 12) w2 (by have := row_drop hr2 12 (by omega); rwa [Nat.zero_add] at this) HLL.out.1)
  rw [← HL.out.2.2.2.1] at G12
  clear hr2 hb2 hw2 G0 G4 HB HR
  by_cases h0 : T = 0
  · have HG := Lib.hid (show spanGet d (a : Int) room = none from by rw [HM.out, if_pos (.inl h0)])
    have h0b : ((T : Int) == 0) = true := by simp [h0]
    clear h0
    go_wp2_with fail
    go_ret3
    exact getSaid_none HG.out H2.out.2
  · have h0b : ((T : Int) == 0) = false := by simpa using h0
    by_cases h1 : T = AG
    · have h1b : ((T : Int) != (AG : Int)) = false := by simp; omega
      have h01 : ¬ (T = 0 ∨ T ≠ AG) := by omega
      have HM2 := Lib.hid (show spanGet d (a : Int) room = if min room ((N : Int) - (a : Int)) < (need SZ : Int) then none else if sumOf B ≠ SM then none else some (T, B) from by rw [HM.out, if_neg h01])
      have hSZ : SZ < 4294967296 := by omega
      clear h0 h1 h01 HM
      obtain ⟨X, hX⟩ : ∃ X : Int, X = (need SZ : Int) := ⟨_, rfl⟩
      have hX1 : 1 ≤ X := by rw [hX]; unfold need; omega
      have HN := Lib.hid (fun w => need_any SZ w (by omega))
      have HSZ := Lib.hid (fun w3 (h3 : Below w.heap.size w w3) => size_at (HD.out.1.below h3))
      rw [← HD.out.2.1] at HSZ
      rw [← hX] at HN HM2
      have HX := Lib.hid hX
      have hN0 : (N : Int) ≤ 4000 := by omega
      have ha0 : (a : Int) < (N : Int) := by omega
      clear hX hN4 ha hSZ
      by_cases hno : min room ((N : Int) - (a : Int)) < X
      · have HG := Lib.hid (show spanGet d (a : Int) room = none from by rw [HM2.out, if_pos hno])
        by_cases hmn : room ≤ (N : Int) - (a : Int)
        all_goals
          have hno' : (room ≤ (N : Int) - (a : Int) ∧ room < X) ∨ ((N : Int) - (a : Int) < room ∧ (N : Int) - (a : Int) < X) := by omega
          rcases hno' with ⟨g1, g2⟩ | ⟨g1, g2⟩
        all_goals first
          | (exfalso; omega)
          | skip
        all_goals
          clear hno hmn
          go_wp2_with fail
          refine G12.out.mono ?_
          rintro e w3 ⟨rfl, m, rfl⟩
          go_wp2_with fail
          refine (HN.out _).mono ?_
          rintro e w4 ⟨rfl, rfl⟩
          go_wp2_with fail
          refine (HSZ.out _ (H2.out.2.trans (below_drewN _ _ _))).mono ?_
          rintro e w4 ⟨rfl, rfl⟩
          go_wp2_with fail
          go_ret3
          exact getSaid_none HG.out (H2.out.2.trans (below_drewN _ _ _))
      · have HG := Lib.hid (show spanGet d (a : Int) room = if sumOf B ≠ SM then none else some (T, B) from by rw [HM2.out, if_neg hno])
        have hcnt : a + cnt SZ < N := by have := HX.out; unfold need at this; omega
        have hcnt' : a + cnt SZ < d.s.length := by rw [← HD.out.2.1]; exact hcnt
        have hno' : (room ≤ (N : Int) - (a : Int) ∧ X ≤ room) ∨ ((N : Int) - (a : Int) < room ∧ X ≤ (N : Int) - (a : Int)) := by omega
        have HRB := Lib.hid (fun w3 (h3 : Below w.heap.size w w3) => readBytes_at (HD.out.1.below h3) a SZ hcnt')
        rw [← HD.out.2.2] at HRB
        clear hno hcnt hcnt' HM2
        have hno2 : (room ≤ (N : Int) - (a : Int) ∧ decide (room < X) = false) ∨ ((N : Int) - (a : Int) < room ∧ decide ((N : Int) - (a : Int) < X) = false) := by
          rcases hno' with ⟨g1, g2⟩ | ⟨g1, g2⟩
          · exact .inl ⟨g1, by simp; omega⟩
          · exact .inr ⟨g1, by simp; omega⟩
        clear hno'
        rcases hno2 with ⟨g1, g2⟩ | ⟨g1, g2⟩
        all_goals
          go_wp2_with fail
          refine G12.out.mono ?_
          rintro e w3 ⟨rfl, m, rfl⟩
          go_wp2_with fail
          refine (HN.out _).mono ?_
          rintro e w4 ⟨rfl, rfl⟩
          go_wp2_with fail
          refine (HSZ.out _ (H2.out.2.trans (below_drewN _ _ _))).mono ?_
          rintro e w4 ⟨rfl, rfl⟩
          go_wp2_with fail
          refine (HRB.out _ (H2.out.2.trans (below_drewN _ _ _))).mono ?_
          rintro e w5 ⟨v, rfl, ho, hb⟩
          have hwb : Below w.heap.size w w5 := (H2.out.2.trans (below_drewN w.heap.size w2 m)).trans (hb.mono H2.out.2.size)
          have hr5 : Row w5 (.slice (some ⟨g, 8, none⟩) 8 (cap - 8)) (l.drop 8) := by
            have := row_drop ((row_drewN H2.out.1 m).below hb) 8 (by omega)
            rwa [Nat.zero_add] at this
          have H5 := Lib.hid (And.intro (show NetMem.Own w5 w.heap.size v B from ho.mono H2.out.2.size) (And.intro hwb hr5))
          obtain ⟨qa, qc, hv⟩ : ∃ qa qc, v = .slice qa B.length qc := by
            rcases id ho with ⟨rfl, h0⟩ | ⟨g', cap', rfl, -⟩
            · exact ⟨none, 0, by rw [h0]; rfl⟩
            · exact ⟨_, _, rfl⟩
          subst hv
          clear ho hb hwb hr5 g1 g2
          have FG := Lib.hid (fun (W : World) (h : SinceS w5 W) => get_since H5.out.2.2 h HLL.out.2)
          rw [← HL.out.2.2.2.2.2] at FG
          have FO := Lib.hid (of_since H5.out.1.row)
          have HS := Lib.hid (show SinceS w5 w5.drew from below_drew _ _)
          go_wp2_with fail
        all_goals
          clear hX1 hN0 ha0 bT bA bZ bM h0b h1b hc2 HN HSZ HRB G12
          go_region_held (fun W => SinceS w5 W) (first | assumption | exact HS.out | exact SinceS.alloc (by assumption) _)
            (first
              | (go_at_call 70; (with_reducible refine FO.out.mono ?_); rintro e w6 ⟨rfl, hs6⟩)
              | (go_at_call 75; (with_reducible refine (FG.out _ (by assumption)).mono ?_); rintro e w7 ⟨rfl, hs7⟩))
        all_goals
          have H7 := Lib.hid (show Below w.heap.size w w7 ∧ NetMem.Own w7 w.heap.size (.slice qa B.length qc) B from ⟨H5.out.2.1.trans (Below.mono hs7 H5.out.2.1.size), H5.out.1.below hs7⟩)
          clear hs6 hs7
          by_cases hne : sumOf B = SM
          · have hb : (((sumOf B : Nat) : Int) != (SM : Int)) = false := by simp; omega
            have HG2 := Lib.hid (show spanGet d (a : Int) room = some (T, B) from by rw [HG.out, if_neg (by simp; exact hne)])
            clear hne
            go_wp2_with fail
            go_ret3
            exact getSaid_some HG2.out H7.out.2 H7.out.1
          · have hb : (((sumOf B : Nat) : Int) != (SM : Int)) = true := by simp; omega
            have HG2 := Lib.hid (show spanGet d (a : Int) room = none from by rw [HG.out, if_pos hne])
            clear hne
            go_wp2_with fail
            go_ret3
            exact getSaid_none HG2.out H7.out.1
    · have HG := Lib.hid (show spanGet d (a : Int) room = none from by rw [HM.out, if_pos (.inr h1)])
      have h1b : ((T : Int) != (AG : Int)) = true := by simp; omega
      clear h0 h1
      go_wp2_with fail
      refine G12.out.mono ?_
      rintro e w3 ⟨rfl, m, rfl⟩
      go_wp2_with fail
      go_ret3
      exact getSaid_none HG.out (H2.out.2.trans (below_drewN _ _ _))
end Go.Proofs.YtilplpjdbkipoaaGreatDoor
