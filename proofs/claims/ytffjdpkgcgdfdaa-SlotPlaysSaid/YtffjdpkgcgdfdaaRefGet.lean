/-
  Proved: the statements' own package of chapter 4: Get answers what its model does, in new memory. No conditions but the disk's.
-/
import Derived.Test.YtffjdpkgcgdfdaaRefPuts
import Derived.Deep.QuietTactic
namespace Go.Proofs.Ytffjdpkgcgdfdaa
open Go Go.RowKit DiskMath NetMem SpanMath SumMath

theorem lastOf_len {n : Nat} : ∀ (p : List (Nat × List UInt8)) (k : Nat) (x : List UInt8), (∀ y ∈ p, y.2.length = n) → x.length = n → (lastOf p k x).length = n
  | [], _, _, _, hx => hx
  | y :: p, k, x, h, hx => by
    show (lastOf p k (if y.1 = k then y.2 else x)).length = n
    refine lastOf_len p k _ (fun z hz => h z (by simp [hz])) ?_
    split
    · exact h y (by simp)
    · exact hx
theorem wf_la16 {d : Dk} (h : Wf d) (k : Nat) (hk : k < d.s.length) : (la d k).length = 16 := by
  rw [h.last k hk]
  refine lastOf_len _ _ _ h.row ?_
  unfold fl
  rw [List.getElem?_eq_getElem hk, Option.getD_some]
  exact h.sec _ (List.getElem_mem hk)
theorem gather_len (d : Dk) (hw : Wf d) (a m : Nat) (h : a + cnt m < d.s.length) : ∀ k, k ≤ cnt m → (gather d (a : Int) k).length = 16 * k
  | 0, _ => rfl
  | k + 1, hk => by
    rw [gather, List.length_append, gather_len d hw a m h k (by omega), show (a : Int) + 1 + (k : Int) = ((a + 1 + k : Nat) : Int) by omega, read_la d _ (by omega), wf_la16 hw _ (by omega)]
    omega

set_option maxHeartbeats 1000000 in
theorem rget_out {w0 w : World} {D : Nat → Prop} {p : Value} {d : Dk} (h : RefAt w0 w D p d) (at_ room : Int) (hi : d.has at_ = false) :
    Calls Try.prog 33 #[p, .int .i64 at_, .int .i64 room] w fun e w' => e = .returned (.tuple #[.int .u32 0, .slice none 0 0, .bool false]) ∧ w = w' := by
  obtain ⟨g, sv, pv, sb, ps, rfl, hm, -⟩ := h
  have HR := Lib.hid (rread_out hm at_ hi)
  clear hm hi
  go_enter Try.func33, Try.ntmps33
  go_wp2_with fail
  refine HR.out.mono ?_
  rintro e w1 ⟨rfl, rfl⟩
  go_wp2_with fail
  refine (refget_few none 0 0 w (by omega)).mono ?_
  rintro e w1 ⟨rfl, rfl⟩
  go_wp2_with fail
  go_ret3
  exact ⟨rfl, rfl⟩

theorem rread_some {w0 w : World} {D : Nat → Prop} {p : Value} {d : Dk} (h : RefAt w0 w D p d) (a : Nat) (ha : a < d.s.length) :
    Calls Try.prog 46 #[p, .int .i64 (a : Int)] w fun e w' => ∃ g cap, e = .returned (.slice (some ⟨g, 0, none⟩) 16 cap) ∧ 16 ≤ cap ∧ cap ≤ maxLen ∧ Row w' (.slice (some ⟨g, 0, none⟩) 16 cap) (d.read (a : Int)) ∧ Below w.heap.size w w' := by
  have hlen : (d.read (a : Int)).length = 16 := by rw [read_la d a ha]; exact wf_la16 h.wf a ha
  refine (rread_at h (a : Int)).mono fun e w' ⟨v, he, ho, hb⟩ => ?_
  rcases id ho with ⟨-, h0⟩ | ⟨g, cap, rfl, -, -, h1, h2, -, -⟩
  · rw [h0] at hlen; simp at hlen
  · have hr := ho.row
    rw [hlen] at hr h1 he
    exact ⟨g, cap, he, h1, h2, hr, hb⟩

/-- What Get answers, of a sector that is there: by its words. -/
theorem ref_model (d : Dk) (a : Nat) (room : Int) (ha : a < d.s.length) {l B : List UInt8} {T AG SZ SM : Nat} (hl : l = d.read (a : Int)) (hT : T = getB l) (hA : AG = getB (l.drop 12)) (hZ : SZ = getB (l.drop 4)) (hM : SM = getB (l.drop 8)) (hB : B = (gather d (a : Int) (cnt SZ)).take SZ) :
    spanGet d (a : Int) room = if T = 0 ∨ T ≠ AG then none else if room < (need SZ : Int) ∨ (d.s.length : Int) - (a : Int) < (need SZ : Int) then none else if sumOf B ≠ SM then none else some (T, B) := by
  rw [get_model d a room ha hl hT hA hZ hM hB]
  by_cases h : T = 0 ∨ T ≠ AG
  · rw [if_pos h, if_pos h]
  · rw [if_neg h, if_neg h]
    by_cases h2 : room < (need SZ : Int) ∨ (d.s.length : Int) - (a : Int) < (need SZ : Int)
    · rw [if_pos h2, if_pos (by omega)]
    · rw [if_neg h2, if_neg (by omega)]

theorem RefAt.sec_cell {w0 w : World} {D : Nat → Prop} {gd : Nat} {d : Dk} (h : RefAt w0 w D (.pointer (some ⟨gd, 0, none⟩)) d) : ∃ a c, w.cell? ⟨gd, 0, none⟩ = some (.slice a d.s.length c) := by
  obtain ⟨g, a, c, hp, hc⟩ := h.sectors
  simp only [Value.pointer.injEq, Option.some.injEq, Addr.mk.injEq] at hp
  obtain ⟨rfl, -, -⟩ := hp
  exact ⟨a, c, hc⟩
theorem refneed_quiet (n : Nat) (w : World) (h : n ≤ 9223372036854775807) :
    Calls Try.prog 26 #[.int .i64 (n : Int)] w fun e w' => e = .returned (.int .i64 (need n : Nat)) ∧ ∃ m, w' = w.drewN m :=
  (refneed_any n w h).mono fun e w' ⟨h1, h2⟩ => ⟨h1, 0, by subst h2; rfl⟩
theorem refof_quiet (p : Option Addr) (n c : Nat) (l : List UInt8) (w : World) (h : Row w (.slice p n c) l) :
    Calls Try.prog 48 #[.slice p n c] w fun e w' => e = .returned (.int .u32 (sumOf l : Nat)) ∧ ∃ m, w' = w.drewN m := by
  obtain ⟨rfl, -⟩ := Row.nums h
  exact (refof_any p c l w h).mono fun e w' ⟨h1, h2⟩ => ⟨h1, 0, by subst h2; rfl⟩

def RelGG (d : Dk) (a : Nat) (SZ : Nat) (w : World) (v i : Value) (wr : World) : Prop :=
  ∃ (k M : Nat) (v0 : Value), v0 = v ∧ k ≤ cnt SZ ∧ M = 16 * k ∧ NetMem.Own wr w.heap.size v0 (gather d (a : Int) k) ∧ i = .int .i64 (M : Int) ∧ Below w.heap.size w wr

set_option maxHeartbeats 8000000 in
set_option maxRecDepth 100000 in
theorem rget_in {w0 w : World} {D : Nat → Prop} {p : Value} {d : Dk} (h : RefAt w0 w D p d) (a : Nat) (room : Int) (ha : a < d.s.length) :
    Calls Try.prog 33 #[p, .int .i64 (a : Int), .int .i64 room] w (GetSaid (spanGet d (a : Int) room) w) := by
  obtain ⟨gd, av, cv, hpp, -⟩ := h.sectors
  subst hpp
  have HR := Lib.hid (rread_some h a ha)
  obtain ⟨i0, hi, hz0, hz1, hz2⟩ := info_parts infoB
  have HI := Lib.hid (And.intro hi (And.intro hz0 (And.intro hz1 hz2)))
  obtain ⟨l, hl⟩ : ∃ l, l = d.read (a : Int) := ⟨_, rfl⟩
  have hlen : l.length = 16 := by rw [hl, read_la d a ha]; exact wf_la16 h.wf a ha
  obtain ⟨T, hT⟩ : ∃ T, T = getB l := ⟨_, rfl⟩
  obtain ⟨AG, hA⟩ : ∃ T, T = getB (l.drop 12) := ⟨_, rfl⟩
  obtain ⟨SZ, hZ⟩ : ∃ T, T = getB (l.drop 4) := ⟨_, rfl⟩
  obtain ⟨SM, hM⟩ : ∃ T, T = getB (l.drop 8) := ⟨_, rfl⟩
  obtain ⟨B, hB⟩ : ∃ B, B = (gather d (a : Int) (cnt SZ)).take SZ := ⟨_, rfl⟩
  have hmod := ref_model d a room ha hl hT hA hZ hM hB
  have bZ : SZ < 4294967296 := by have := getB_lt (l.drop 4); omega
  obtain ⟨Z, hZZ⟩ : ∃ Z : Int, Z = (SZ : Int) := ⟨_, rfl⟩
  have z0 : 0 ≤ Z := by omega
  have z1 : Z ≤ 4294967295 := by omega
  obtain ⟨N, hN⟩ : ∃ N, N = d.s.length := ⟨_, rfl⟩
  have hN4 := h.max
  rw [← hN] at hmod ha hN4
  have HM := Lib.hid hmod
  have HD := Lib.hid (And.intro h (And.intro hN (And.intro hB (And.intro hZZ (And.intro bZ (And.intro hN4 ha))))))
  have HL := Lib.hid (And.intro hl (And.intro hlen (And.intro hT (And.intro hA (And.intro hZ hM)))))
  clear h hl hlen hmod hN hB hT hA hZ hM hi hz0 hz1 hz2 bZ hN4 ha hZZ
  go_enter Try.func33, Try.ntmps33
  go_wp2_with fail
  refine HR.out.mono ?_
  rintro e w1 ⟨g, cap, rfl, hc1, hc2, hr, hb⟩
  rw [← HL.out.1] at hr
  unfold maxLen at hc2
  have hl12 : 4 ≤ (l.drop 12).length := by rw [List.length_drop, HL.out.2.1]; omega
  have hl8 : 4 ≤ (l.drop 8).length := by rw [List.length_drop, HL.out.2.1]; omega
  have hl4 : 4 ≤ (l.drop 4).length := by rw [List.length_drop, HL.out.2.1]; omega
  have hl0 : 4 ≤ l.length := by rw [HL.out.2.1]; omega
  have G0 := Lib.hid (fun W (h : Row W (.slice (some ⟨g, 0, none⟩) 16 cap) l) => refget_q g 0 16 cap l W h hl0)
  have G4 := Lib.hid (fun W (h : Row W (.slice (some ⟨g, 0, none⟩) 16 cap) l) => refget_q g 4 12 (cap - 4) (l.drop 4) W (by have := row_drop h 4 (by omega); rwa [Nat.zero_add] at this) hl4)
  have G8 := Lib.hid (fun W (h : Row W (.slice (some ⟨g, 0, none⟩) 16 cap) l) => refget_q g 8 8 (cap - 8) (l.drop 8) W (by have := row_drop h 8 (by omega); rwa [Nat.zero_add] at this) hl8)
  have G12 := Lib.hid (fun W (h : Row W (.slice (some ⟨g, 0, none⟩) 16 cap) l) => refget_q g 12 4 (cap - 12) (l.drop 12) W (by have := row_drop h 12 (by omega); rwa [Nat.zero_add] at this) hl12)
  rw [← HL.out.2.2.1] at G0
  rw [← HL.out.2.2.2.1] at G12
  rw [← HL.out.2.2.2.2.1] at G4
  rw [← HL.out.2.2.2.2.2] at G8
  have H1 := Lib.hid (And.intro hr hb)
  clear hr hb hl12 hl8 hl4 hl0
  go_wp2_with fail
  refine (G0.out w1 H1.out.1).mono ?_
  rintro e w2 ⟨rfl, m2, rfl⟩
  have H2 := Lib.hid (And.intro (row_drewN H1.out.1 m2) (H1.out.2.trans (below_drewN w.heap.size w1 m2)))
  obtain ⟨w2, hw2⟩ : ∃ w2, w2 = w1.drewN m2 := ⟨_, rfl⟩
  rw [← hw2] at H2 ⊢
  clear hw2
  by_cases h0 : T = 0
  · have HG := Lib.hid (show spanGet d (a : Int) room = none from by rw [HM.out, if_pos (.inl h0)])
    have h0b : ((T : Int) == 0) = true := by simp [h0]
    clear h0
    go_wp2_with fail
    go_ret3
    exact getSaid_none HG.out H2.out.2
  · have h0b : ((T : Int) == 0) = false := by simpa using h0
    by_cases h1 : T = AG
    · have h1b : ((T : Int) != (AG : Int)) = false := by simp; omega
      have h01 : ¬ (T = 0 ∨ T ≠ AG) := by omega
      have HM2 := Lib.hid (show spanGet d (a : Int) room = if room < (need SZ : Int) ∨ (N : Int) - (a : Int) < (need SZ : Int) then none else if sumOf B ≠ SM then none else some (T, B) from by rw [HM.out, if_neg h01])
      clear h0 h1 h01
      go_wp2_with fail
      refine (G12.out w2 H2.out.1).mono ?_
      rintro e w3 ⟨rfl, m3, rfl⟩
      have H3 := Lib.hid (And.intro (row_drewN H2.out.1 m3) (H2.out.2.trans (below_drewN w.heap.size w2 m3)))
      obtain ⟨w3, hw3⟩ : ∃ w3, w3 = w2.drewN m3 := ⟨_, rfl⟩
      rw [← hw3] at H3 ⊢
      clear hw3
      go_wp2_with fail
      refine (G4.out w3 H3.out.1).mono ?_
      rintro e w4 ⟨rfl, m4, rfl⟩
      have H4 := Lib.hid (And.intro (row_drewN H3.out.1 m4) (H3.out.2.trans (below_drewN w.heap.size w3 m4)))
      obtain ⟨w4, hw4⟩ : ∃ w4, w4 = w3.drewN m4 := ⟨_, rfl⟩
      rw [← hw4] at H4 ⊢
      clear hw4
      rw [← HD.out.2.2.2.1]
      go_wp2_with fail
      obtain ⟨X, hX⟩ : ∃ X : Int, X = (need SZ : Int) := ⟨_, rfl⟩
      have HNQ := Lib.hid (fun w => refneed_quiet SZ w (by have := HD.out.2.2.2.2.1; omega))
      rw [← HD.out.2.2.2.1, ← hX] at HNQ
      rw [← hX] at HM2
      have HX := Lib.hid hX
      have x1 : 1 ≤ X := by rw [hX]; unfold need; omega
      obtain ⟨av2, cv2, hsc⟩ := (HD.out.1.below H4.out.2).sec_cell
      rw [← HD.out.2.1] at hsc
      have n1 : (N : Int) ≤ 4000 := by have := HD.out.2.2.2.2.2.1; omega
      have a1 : (a : Int) ≤ 4000 := by have := HD.out.2.2.2.2.2.1; have := HD.out.2.2.2.2.2.2; omega
      have a0 : (0 : Int) ≤ (a : Int) := by omega
      have n0 : (0 : Int) ≤ (N : Int) := by omega
      clear hX
      have main : decide (room < X) = true ∨ (decide (room < X) = false ∧ decide ((N : Int) - (a : Int) < X) = true) ∨ (decide (room < X) = false ∧ decide ((N : Int) - (a : Int) < X) = false) := by
        simp only [decide_eq_true_eq, decide_eq_false_iff_not]; omega
      rcases main with g1 | ⟨g1, g2⟩ | ⟨g1, g2⟩
      · have HG := Lib.hid (show spanGet d (a : Int) room = none from by rw [HM2.out, if_pos (.inl (by simpa using g1))])
        go_quiet ((go_at_call 26; exact Calls.quiet_of (by with_reducible exact HNQ.out _)))
        go_wp2_with fail
        go_ret3
        exact getSaid_none HG.out (H4.out.2.trans (below_drewN _ _ _))
      · have HG := Lib.hid (show spanGet d (a : Int) room = none from by rw [HM2.out, if_pos (.inr (by simpa using g2))])
        go_quiet ((go_at_call 26; exact Calls.quiet_of (by with_reducible exact HNQ.out _)))
        go_wp2_with fail
        go_ret3
        exact getSaid_none HG.out (H4.out.2.trans (below_drewN _ _ _))
      · have HG := Lib.hid (show spanGet d (a : Int) room = if sumOf B ≠ SM then none else some (T, B) from by rw [HM2.out, if_neg (by simp only [decide_eq_false_iff_not] at g1 g2; omega)])
        have HCN := Lib.hid (show a + cnt SZ < d.s.length from by have := HX.out; have := HD.out.2.1; simp only [decide_eq_false_iff_not] at g1 g2; unfold need at *; omega)
        have cz : (cnt SZ : Int) ≤ 4000 := by have := HCN.out; have := HD.out.2.1; omega
        go_quiet ((go_at_call 26; exact Calls.quiet_of (by with_reducible exact HNQ.out _)))
        obtain ⟨w5, hw5⟩ : ∃ w5, w5 = w4.drewN nq := ⟨_, rfl⟩
        have H5 := Lib.hid (show Row w5 (.slice (some ⟨g, 0, none⟩) 16 cap) l ∧ Below w.heap.size w w5 from by rw [hw5]; exact ⟨row_drewN H4.out.1 _, H4.out.2.trans (below_drewN w.heap.size w4 _)⟩)
        rw [← hw5]
        clear hw5 hsc g1 g2 HM2 HNQ x1
        go_wp2_with fail
        go_loopw [12, 13] (fun v i wr => RelGG d a SZ w5 v i wr) (fun _ i _ => SZ - (intOf i).toNat)
        case atStart => exact ⟨0, 0, _, rfl, by omega, rfl, NetMem.Own.nil _ _, rfl, Below.refl _ _⟩
        case round =>
          obtain ⟨k, M, v, rfl, hk, hM, ho, rfl, hb⟩ := hrel
          have hgk := gather_len d HD.out.1.wf a SZ HCN.out
          have hcm := cnt_le SZ
          by_cases hlt : k < cnt SZ
          · have hml : M < SZ := by rw [hM]; exact (cnt_lt _ _).1 hlt
            have hq16 : (M : Int) / 16 = (k : Int) := by omega
            have m0 : (0 : Int) ≤ (M : Int) := by omega
            have m1 : (M : Int) < Z := by have := HD.out.2.2.2.1; omega
            have m2 : (M : Int) ≤ 64000 := by omega
            have k0 : (0 : Int) ≤ (k : Int) := by omega
            have k1 : (k : Int) ≤ 4000 := by omega
            have h1 := hgk (k + 1) (by omega)
            have h2 := hgk k (by omega)
            rw [gather, List.length_append] at h1
            have HRR := Lib.hid (rread_at (HD.out.1.below (H5.out.2.trans (hb.mono H5.out.2.size))) ((a : Int) + 1 + (k : Int)))
            have HO := Lib.hid (And.intro ho (And.intro hb (And.intro (show (gather d (a : Int) k).length + (d.read ((a : Int) + 1 + (k : Int))).length ≤ 140737488355328 by omega) (And.intro hlt hM))))
            clear ho hb h1 h2 hgk hcm hml hlt hM hk
            go_wp2_with fail
            refine HRR.out.mono ?_
            rintro e w6 ⟨v6, rfl, ho6, hb6⟩
            have HQ := Lib.hid (And.intro (HO.out.1.below hb6) (And.intro (Row.src (P := Try.prog) ho6.row Try.underlying27) (HO.out.2.1.trans (hb6.mono HO.out.2.1.size))))
            clear ho6 hb6
            go_wp2_with (at_builtin; refine wpList_append_bytes _ rfl _ _ 27 27 rfl 5 i0 Try.underlying27 HI.out.1 HI.out.2.1 HI.out.2.2.1 HI.out.2.2.2 w5.heap.size _ _ rfl HQ.out.1 _ _ rfl HQ.out.2.1 HO.out.2.2.1 HQ.out.2.2.size ?_)
            intro v' w' ho3 hg3 hnil
            have HB := Lib.hid (And.intro ho3 (HQ.out.2.2.grown hg3 HQ.out.2.2.size (fun k hk => (HQ.out.1.lt k hk).1)))
            clear ho3 hg3 hnil
            go_wp2_with fail
            exact ⟨⟨k + 1, M + 16, _, rfl, by have := HO.out.2.2.2.1; omega, by have := HO.out.2.2.2.2; omega, HB.out.1, by go_num, HB.out.2⟩, by have := HD.out.2.2.2.1; simp [intOf]; omega⟩
          · obtain rfl : k = cnt SZ := by omega
            have hkk := hgk (cnt SZ) (Nat.le_refl _)
            have hle : SZ ≤ (gather d (a : Int) (cnt SZ)).length := by rw [hkk]; exact hcm
            have m1 : Z ≤ (M : Int) := by have := HD.out.2.2.2.1; omega
            have hz2 : Z ≤ 64000 := by have := HD.out.2.2.2.1; omega
            have fin : ∃ (q : Option Addr) (n c : Nat), v = .slice q n c ∧ (SZ : Nat) ≤ c ∧ NetMem.Own wr w5.heap.size (.slice q SZ c) B := by
              rw [HD.out.2.2.1]
              rcases id ho with ⟨rfl, h0⟩ | ⟨g', cap', rfl, hB', hg', hlc', hcm', hf', hc'⟩
              · have h00 : SZ = 0 := by rw [h0] at hle; simpa using hle
                exact ⟨none, 0, 0, rfl, by omega, by rw [h00, List.take_zero]; exact NetMem.Own.nil _ _⟩
              · exact ⟨_, _, cap', rfl, by omega, own_take ho SZ hle⟩
            obtain ⟨q, nn, cc, rfl, hcc, hob⟩ := fin
            have HB5 := Lib.hid (And.intro hob hb)
            have hcz : Z ≤ (cc : Int) := by have := HD.out.2.2.2.1; omega
            have zt : Z.toNat = SZ := by have := HD.out.2.2.2.1; omega
            have OF := Lib.hid (fun m => refof_quiet q SZ cc B (wr.drewN m) (row_drewN hob.row m))
            have G88 := Lib.hid (fun m => G8.out (wr.drewN m) (row_drewN (H5.out.1.below hb) m))
            clear ho hb hgk hkk hcm hle hob hcc hM hk hlt
            go_wp2_with fail
            go_quiet (first | (go_at_call 48; exact Calls.quiet_of (by with_reducible exact OF.out _)) | (go_at_call 47; exact Calls.quiet_of (by with_reducible exact G88.out _)))
            have H7 := Lib.hid (show Below w.heap.size w (wr.drewN nq) ∧ NetMem.Own (wr.drewN nq) w.heap.size (.slice q SZ cc) B from ⟨(H5.out.2.trans (HB5.out.2.mono H5.out.2.size)).trans (below_drewN _ _ _), (HB5.out.1.mono H5.out.2.size).keep (Nat.le_refl _) fun _ _ => rfl⟩)
            by_cases hne : sumOf B = SM
            · have hb : (((sumOf B : Nat) : Int) != (SM : Int)) = false := by simp; omega
              have HG2 := Lib.hid (show spanGet d (a : Int) room = some (T, B) from by rw [HG.out, if_neg (by simp; exact hne)])
              clear hne
              go_wp2_with fail
              go_ret3
              exact getSaid_some HG2.out H7.out.2 H7.out.1
            · have hb : (((sumOf B : Nat) : Int) != (SM : Int)) = true := by simp; omega
              have HG2 := Lib.hid (show spanGet d (a : Int) room = none from by rw [HG.out, if_pos hne])
              clear hne
              go_wp2_with fail
              go_ret3
              exact getSaid_none HG2.out H7.out.1
    · have HG := Lib.hid (show spanGet d (a : Int) room = none from by rw [HM.out, if_pos (.inr h1)])
      have h1b : ((T : Int) != (AG : Int)) = true := by simp; omega
      clear h0 h1
      go_wp2_with fail
      refine (G12.out w2 H2.out.1).mono ?_
      rintro e w3 ⟨rfl, m, rfl⟩
      go_wp2_with fail
      go_ret3
      exact getSaid_none HG.out (H2.out.2.trans (below_drewN _ _ _))
end Go.Proofs.Ytffjdpkgcgdfdaa
