/-
  Proved: how pieces lie in memory; contracts of the search for a piece that is not many. Conditions: the pieces lie in memory.
-/
import Derived.Test.YtpgmlbdfmcbgoaaDoorGlPieces
namespace Go.Proofs.YtpgmlbdfmcbgoaaDoor
open Go Go.RowKit GlyphMath GlMath

/-- A row of pieces. -/
structure PcAt (w : World) (v : Value) (R : List (Pc × Value)) : Prop where
  is : ∃ p c, v = .slice p R.length c ∧ R.length ≤ c ∧ c ≤ maxLen ∧ ((p = none ∧ c = 0) ∨ ∃ b o, p = some ⟨b, o, none⟩ ∧ ∀ k x, R[k]? = some x → w.cell? ⟨b, o + k * 3, none⟩ = some (.bool x.1.many) ∧ w.cell? ⟨b, o + k * 3 + 1, none⟩ = some (.bool x.1.neg) ∧ w.cell? ⟨b, o + k * 3 + 2, none⟩ = some x.2)
theorem PcAt.below {w w' : World} {v : Value} {R : List (Pc × Value)} (h : PcAt w v R) (hb : Below w.heap.size w w') : PcAt w' v R := by
  obtain ⟨p, c, hv, h1, h2, h3⟩ := h.is
  refine ⟨p, c, hv, h1, h2, ?_⟩
  rcases h3 with h3 | ⟨b, o, hp, hc⟩
  · exact .inl h3
  · refine .inr ⟨b, o, hp, fun k x hk => ?_⟩
    obtain ⟨c1, c2, c3⟩ := hc k x hk
    exact ⟨(hb.cell (World.block_lt_of_cell? w _ c1)).trans c1, (hb.cell (World.block_lt_of_cell? w _ c2)).trans c2, (hb.cell (World.block_lt_of_cell? w _ c3)).trans c3⟩
theorem pcCs_length : ∀ R : List (Pc × Value), (pcCs R).length = R.length * 3
  | [] => rfl
  | x :: R => by simp [pcCs, pcCs_length R]; omega
theorem pcCs_at : ∀ (R : List (Pc × Value)) (k : Nat) (x : Pc × Value), R[k]? = some x → (pcCs R)[k * 3]? = some (.bool x.1.many) ∧ (pcCs R)[k * 3 + 1]? = some (.bool x.1.neg) ∧ (pcCs R)[k * 3 + 2]? = some x.2
  | [], _, _, h => by simp at h
  | a :: R, 0, x, h => by
    simp only [List.getElem?_cons_zero, Option.some.injEq] at h
    subst h
    exact ⟨rfl, rfl, rfl⟩
  | a :: R, k + 1, x, h => by
    rw [List.getElem?_cons_succ] at h
    have := pcCs_at R k x h
    rw [Nat.succ_mul]
    exact this
theorem PcAt.of {w : World} {B : Nat} {v : Value} {R : List (Pc × Value)} (h : w.ownsRow B 55 3 v R.length (pcCs R)) : PcAt w v R := by
  rcases h.2 with ⟨hv, hn⟩ | ⟨g, cap, cur, hv, hbg, hg, h1, h2, h3, h4⟩
  · exact ⟨none, 0, by rw [hv, hn], by omega, by decide, .inl ⟨rfl, rfl⟩⟩
  · refine ⟨_, cap, hv, h1, h2, .inr ⟨g, 0, rfl, fun k x hk => ?_⟩⟩
    obtain ⟨e0, e1, e2⟩ := pcCs_at R k x hk
    have hl := pcCs_length R
    have key : ∀ j u, (pcCs R)[j]? = some u → w.cell? ⟨g, 0 + j, none⟩ = some u := fun j u hj => by
      rw [Nat.zero_add, cell_of_row w g j cur _ _ hg]
      rw [← h4, List.getElem?_take] at hj
      split at hj
      · simpa using hj
      · cases hj
    exact ⟨key _ _ e0, key _ _ e1, key _ _ e2⟩
theorem PcAt.get {w : World} {p : Option Addr} {n c : Nat} {R : List (Pc × Value)} (h : PcAt w (.slice p n c) R) {k : Nat} {x : Pc × Value} (hx : R[k]? = some x) : ∃ b o, p = some ⟨b, o, none⟩ ∧ w.cell? ⟨b, o + k * 3, none⟩ = some (.bool x.1.many) ∧ w.cell? ⟨b, o + k * 3 + 1, none⟩ = some (.bool x.1.neg) ∧ w.cell? ⟨b, o + k * 3 + 2, none⟩ = some x.2 := by
  obtain ⟨p', c', hv, h1, h2, h3⟩ := h.is
  simp only [Value.slice.injEq] at hv
  obtain ⟨rfl, rfl, rfl⟩ := hv
  rcases h3 with ⟨rfl, rfl⟩ | ⟨b, o, rfl, hc⟩
  · have := (List.getElem?_eq_some_iff.1 hx).1; omega
  · exact ⟨b, o, rfl, hc k x hx⟩
theorem PcAt.cap {w : World} {p : Option Addr} {n c : Nat} {R : List (Pc × Value)} (h : PcAt w (.slice p n c) R) : n = R.length ∧ n ≤ c ∧ c ≤ maxLen := by
  obtain ⟨p', c', hv, h1, h2, h3⟩ := h.is
  simp only [Value.slice.injEq] at hv
  obtain ⟨rfl, rfl, rfl⟩ := hv
  exact ⟨rfl, h1, h2⟩
theorem PcAt.drop {w : World} {p : Option Addr} {c : Nat} {l : List (Pc × Value)} (h : PcAt w (.slice p l.length c) l) (k : Nat) (hk : k ≤ l.length) : PcAt w (sliced p k l.length c 3) (l.drop k) := by
  obtain ⟨p', c', hv, h1, h2, h3⟩ := h.is
  simp only [Value.slice.injEq, true_and] at hv
  obtain ⟨rfl, rfl⟩ := hv
  rcases h3 with ⟨rfl, rfl⟩ | ⟨b, o, rfl, hc⟩
  · obtain rfl : l = [] := List.eq_nil_of_length_eq_zero (by omega)
    simp only [List.length_nil, Nat.le_zero_eq] at hk
    subst hk
    exact ⟨none, 0, rfl, Nat.le_refl _, by decide, .inl ⟨rfl, rfl⟩⟩
  · rw [sliced_at rfl]
    refine ⟨_, _, by rw [List.length_drop], by rw [List.length_drop]; omega, by omega, .inr ?_⟩
    by_cases hm : c = k
    · refine ⟨b, o, by rw [if_pos hm], fun j x hj => ?_⟩
      rw [List.getElem?_drop] at hj
      have := (List.getElem?_eq_some_iff.1 hj).1
      omega
    · refine ⟨b, o + k * 3, by rw [if_neg hm], fun j x hj => ?_⟩
      rw [List.getElem?_drop] at hj
      have := hc (k + j) x hj
      rwa [Nat.add_mul, ← Nat.add_assoc] at this
theorem run_fromP {N k : Nat} (p : Option Addr) (c : Nat) (K : Int) (hK : K = (k : Int)) (hk : k ≤ N) (W : World) : (Instr.slice 37 (.slice p N c) (some (.int .i64 K)) none none).run Tryd.prog W = .ok (sliced p k N c 3) W := by
  subst hK
  rw [run_slice_l W 37 p N c rfl .i64 (k : Int) (by omega) (by omega), Int.toNat_natCast]
  rfl

theorem many_any (x : Pc) (q : Option Addr) (n c : Nat) (w : World) :
    Calls Tryd.prog 26 #[.agg #[.bool x.many, .bool x.neg, .slice q n c]] w fun e w' => e = .returned (.bool (!x.many)) ∧ Below w.heap.size w w' := by
  obtain ⟨m, g, it⟩ := x
  have HB := Lib.hid ((Below.refl _ w).alloc (Nat.le_refl _) (.cells #[.bool m, .bool g, .slice q n c] 55))
  go_enter Tryd.func26, Tryd.ntmps26
  go_wp2_with fail
  go_ret
  exact ⟨rfl, HB.out⟩
/-- Where the first is that is not many. -/
def idxM : List Pc → Nat → Int
  | [], _ => -1
  | x :: l, k => if x.many then idxM l (k + 1) else (k : Int)
theorem idx_all : ∀ (l : List Pc) (k : Nat), decide ((0 : Int) ≤ idxM l k) = !l.all (·.many)
  | [], _ => rfl
  | x :: l, k => by
    rw [idxM, List.all_cons]
    cases hx : x.many with
    | true => simpa using idx_all l (k + 1)
    | false => simp
theorem index_any (R : List (Pc × Value)) (v : Value) (w : World) (h : PcAt w v R) (hs : ∀ x ∈ R, ∃ q n c, x.2 = .slice q n c) :
    Calls Tryd.prog 33 #[v, .func (.func 26) #[] #[]] w fun e w' => e = .returned (.int .i64 (idxM (R.map (·.1)) 0)) ∧ Below w.heap.size w w' := by
  obtain ⟨p, c, rfl, hlc, hcm, -⟩ := h.is
  have HA := Lib.hid h
  have HS := Lib.hid hs
  obtain ⟨N, hN⟩ : ∃ N, R.length = N := ⟨_, rfl⟩
  have HN := Lib.hid hN
  have HNM := Lib.hid (show N ≤ maxLen by rw [← hN]; omega)
  rw [hN]
  obtain ⟨I, hI⟩ : ∃ I, idxM (R.map (·.1)) 0 = I := ⟨_, rfl⟩
  have HII := Lib.hid hI
  rw [hI]
  rw [hN] at HA
  clear h hs hN hlc hcm hI
  go_enter Tryd.func33, Tryd.ntmps33
  go_wp2_with fail
  go_loopw [8] (fun v wr => ∃ k : Nat, v = .int .i64 (k : Int) ∧ k ≤ N ∧ idxM ((R.drop k).map (·.1)) k = I ∧ Below w.heap.size w wr) (fun v _ => N - (intOf v).toNat)
  case atStart => exact ⟨0, rfl, Nat.zero_le _, HII.out, Below.refl _ _⟩
  case round =>
    obtain ⟨k, rfl, hk, hi, hb⟩ := hrel
    have HB := Lib.hid hb
    by_cases hlt : k < N
    · obtain ⟨x, hx⟩ : ∃ x, R[k]? = some x := ⟨_, List.getElem?_eq_getElem (by rw [HN.out]; exact hlt)⟩
      obtain ⟨q, n, c', hv⟩ := HS.out x (List.mem_of_getElem? hx)
      obtain ⟨b, o, hq, c0, c1, c2⟩ := (HA.out.below hb).get hx
      subst hq
      rw [drop_at hx, List.map_cons, idxM] at hi
      obtain ⟨⟨m, g, it⟩, v2⟩ := x
      simp only at hv c0 c1 c2 hi
      subst hv
      have HM := Lib.hid (fun W => many_any ⟨m, g, it⟩ q n c' W)
      have HLT := Lib.hid hlt
      have hltI : (k : Int) < (N : Int) := by omega
      have hk1 : (k : Int) + 1 ≤ 9223372036854775807 := by have := HNM.out; unfold maxLen at this; omega
      cases m
      · have HK := Lib.hid (show (k : Int) = I by rw [← hi]; simp)
        clear hi hb hlt hk hx
        go_wp2_with (go_at_call 26; (with_reducible refine (HM.out _).mono ?_); rintro e w1 ⟨rfl, hb1⟩; have HB1 := Lib.hid (HB.out.trans (hb1.mono HB.out.size)); clear hb1)
        go_ret
        exact ⟨by rw [HK.out]; rfl, HB1.out⟩
      · have HK := Lib.hid (show idxM ((R.drop (k + 1)).map (·.1)) (k + 1) = I by rw [← hi]; simp)
        clear hi hb hlt hk hx
        go_wp2_with (go_at_call 26; (with_reducible refine (HM.out _).mono ?_); rintro e w1 ⟨rfl, hb1⟩; have HB1 := Lib.hid (HB.out.trans (hb1.mono HB.out.size)); clear hb1)
        go_roundw
        case rel => exact ⟨k + 1, by simp, HLT.out, HK.out, HB1.out⟩
        case measure => have := HLT.out; simp [intOf]; omega
    · have hltI : ¬ (k : Int) < (N : Int) := by omega
      have HK := Lib.hid (show -1 = I by rw [← hi, List.drop_eq_nil_of_le (by rw [HN.out]; omega)]; rfl)
      clear hi hb hlt hk
      go_wp2_with fail
      go_ret
      exact ⟨by rw [HK.out]; rfl, HB.out⟩
theorem contains_any (R : List (Pc × Value)) (v : Value) (w : World) (h : PcAt w v R) (hs : ∀ x ∈ R, ∃ q n c, x.2 = .slice q n c) :
    Calls Tryd.prog 25 #[v, .func (.func 26) #[] #[]] w fun e w' => e = .returned (.bool (!(R.map (·.1)).all (·.many))) ∧ Below w.heap.size w w' := by
  have HI := Lib.hid (index_any R v w h hs)
  rw [← idx_all _ 0]
  obtain ⟨I, hI⟩ : ∃ I, idxM (R.map (·.1)) 0 = I := ⟨_, rfl⟩
  rw [hI] at HI ⊢
  obtain ⟨p, c, rfl, hlc, hcm, -⟩ := h.is
  clear h hs hlc hcm hI
  go_enter Tryd.func25, Tryd.ntmps25
  go_wp2_with (go_at_call 33; (with_reducible refine HI.out.mono ?_); rintro e w1 ⟨rfl, hb1⟩; have HB1 := Lib.hid hb1; clear hb1)
  go_ret
  exact ⟨rfl, HB1.out⟩
end Go.Proofs.YtpgmlbdfmcbgoaaDoor
