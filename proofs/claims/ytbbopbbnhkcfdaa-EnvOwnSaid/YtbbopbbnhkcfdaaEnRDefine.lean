/-
  Proved: contract of the statements' own Define. Conditions: functions in order, at most 1000.
-/
import Derived.Test.YtbbopbbnhkcfdaaEnRSet
import Derived.Test.YtbbopbbnhkcfdaaEnCatF
namespace Go.Proofs.Ytbbopbbnhkcfdaa
open Go Go.RowKit EnMath

/-- One more entry, when an entry is to be laid in its place. -/
def stp (n : ByteArray) (v : Int) (s : Bool × List (ByteArray × Int)) (f : ByteArray × Int) : Bool × List (ByteArray × Int) :=
  if eqN f.1 n then (if !s.1 && !ltN f.1 n then (true, s.2 ++ [(n, v)]) else s) else (if !s.1 && !ltN f.1 n then (true, s.2 ++ [(n, v)] ++ [f]) else (s.1, s.2 ++ [f]))
theorem stp_lo (n : ByteArray) (v : Int) : ∀ (A r : List (ByteArray × Int)), (∀ x ∈ A, ltN x.1 n = true) → A.foldl (stp n v) (false, r) = (false, r ++ A)
  | [], r, _ => by simp
  | x :: A, r, h => by
    have hx := h x (by simp)
    rw [List.foldl_cons, show stp n v (false, r) x = (false, r ++ [x]) by simp [stp, hx, lt_ne hx], stp_lo n v A _ fun y hy => h y (by simp [hy])]
    simp
theorem stp_hi (n : ByteArray) (v : Int) : ∀ (C r : List (ByteArray × Int)), (∀ x ∈ C, eqN x.1 n = false) → C.foldl (stp n v) (true, r) = (true, r ++ C)
  | [], r, _ => by simp
  | x :: C, r, h => by
    have hx := h x (by simp)
    rw [List.foldl_cons, show stp n v (true, r) x = (true, r ++ [x]) by simp [stp, hx], stp_hi n v C _ fun y hy => h y (by simp [hy])]
    simp
def fin (n : ByteArray) (v : Int) (s : Bool × List (ByteArray × Int)) : List (ByteArray × Int) := if s.1 then s.2 else s.2 ++ [(n, v)]
theorem stp_all {l : List (ByteArray × Int)} {n : ByteArray} {v : Int} (h : Ordd l) : fin n v (l.foldl (stp n v) (false, [])) = setM l n v := by
  obtain ⟨A, o, C, s⟩ := spl l n h
  rw [s.set]
  conv => lhs; rw [s.is]
  rw [List.foldl_append, stp_lo n v A [] s.lo, List.foldl_append, List.nil_append]
  cases o with
  | some u =>
    rw [show (one n (some u)).foldl (stp n v) (false, A) = (true, A ++ [(n, v)]) by simp [one, stp, eqN_self, lt_irrefl], stp_hi n v C _ s.neC]
    simp [fin]
  | none =>
    rw [show (one n (none : Option Int)).foldl (stp n v) (false, A) = (false, A) from rfl]
    cases C with
    | nil => simp [fin]
    | cons c C =>
      have h1 := s.neC c (by simp)
      have h2 := lt_asymm (s.hi c (by simp))
      rw [List.foldl_cons, show stp n v (false, A) c = (true, A ++ [(n, v)] ++ [c]) by simp [stp, h1, h2], stp_hi n v C _ fun y hy => s.neC y (by simp [hy])]
      simp [fin]
theorem stp_len (n : ByteArray) (v : Int) : ∀ (l : List (ByteArray × Int)) (s : Bool × List (ByteArray × Int)), (l.foldl (stp n v) s).2.length ≤ s.2.length + 2 * l.length
  | [], s => by simp
  | x :: l, s => by
    have h := stp_len n v l (stp n v s x)
    have h2 : (stp n v s x).2.length ≤ s.2.length + 2 := by
      unfold stp
      split <;> split <;> simp
    rw [List.foldl_cons, List.length_cons]
    omega
/-- An Env's variable whose last slice is set, and that is then copied. -/
theorem env_last {w : World} {X : Nat} {v : Value} {p p1 p2 : Option Addr} {n m n1 m1 n2 m2 : Nat} {t : TypeId} {E : Ev} (hX : w.heap[X]? = some (.cells #[.slice p1 n1 m1, .slice p2 n2 m2, .slice p n m] t (0, 0))) (hY : w.heap[X + 1]? = some (.cells #[.slice none 0 0, .slice none 0 0, .slice none 0 0] t (0, 0)))
    (h1 : Rd 2 bC w (.slice p1 n1 m1) E.vars) (h2 : Rd 1 sC w (.slice p2 n2 m2) E.args) (hv : Rd 2 fC w v E.funs) :
    EnvAt ((((w.setCell ⟨X, 2, none⟩ v).setCell ⟨X + 1, 0, none⟩ (.slice p1 n1 m1)).setCell ⟨X + 1, 1, none⟩ (.slice p2 n2 m2)).setCell ⟨X + 1, 2, none⟩ v) (.agg #[.slice p1 n1 m1, .slice p2 n2 m2, v]) E ∧
    ((((w.setCell ⟨X, 2, none⟩ v).setCell ⟨X + 1, 0, none⟩ (.slice p1 n1 m1)).setCell ⟨X + 1, 1, none⟩ (.slice p2 n2 m2)).setCell ⟨X + 1, 2, none⟩ v).heap[X + 1]? = some (.cells #[.slice p1 n1 m1, .slice p2 n2 m2, v] t (0, 0)) := by
  have hY1 : (w.setCell ⟨X, 2, none⟩ v).heap[X + 1]? = some (.cells #[.slice none 0 0, .slice none 0 0, .slice none 0 0] t (0, 0)) := (Below.heap_setCell _ _ _ _ (by simp)).trans hY
  exact ⟨⟨_, _, _, rfl, (h1.setC str_b hX 2 v).put str_b hY1 _ _ _, (h2.setC str_s hX 2 v).put str_s hY1 _ _ _, (hv.setC str_f hX 2 v).put str_f hY1 _ _ _⟩, env_put hY1⟩

set_option maxHeartbeats 4000000 in
theorem rdefine_any {E : Ev} (n : ByteArray) (x : Int) (v : Value) (w : World) (h : EnvAt w v E) (hl : E.funs.length ≤ 1000) (ho : Ordd E.funs) :
    Calls Try.prog 14 #[v, .string n, .int .i64 x] w fun e w' => ∃ v', e = .returned v' ∧ EnvAt w' v' { E with funs := setM E.funs n x } ∧ Below w.heap.size w w' := by
  obtain ⟨p1, c1, p2, c2, p3, c3, rfl, r1, r2, r3⟩ := h.shape
  obtain ⟨W2, hW2⟩ : ∃ W, (w.alloc (.cells #[.slice p1 E.vars.length c1, .slice p2 E.args.length c2, .slice p3 E.funs.length c3] 26)).alloc (.cells #[.slice none 0 0, .slice none 0 0, .slice none 0 0] 26) = W := ⟨_, rfl⟩
  have hb : Below w.heap.size w W2 := by rw [← hW2]; exact en_alloc (en_alloc (Below.refl _ w) _) _
  have hX : W2.heap[w.heap.size]? = some (.cells #[.slice p1 E.vars.length c1, .slice p2 E.args.length c2, .slice p3 E.funs.length c3] 26 (0, 0)) := by rw [← hW2, Below.heap_alloc _ _ _ (by simp)]; exact heap_alloc_new w _
  have hY : W2.heap[w.heap.size + 1]? = some (.cells #[.slice none 0 0, .slice none 0 0, .slice none 0 0] 26 (0, 0)) := by
    have := heap_alloc_new (w.alloc (.cells #[.slice p1 E.vars.length c1, .slice p2 E.args.length c2, .slice p3 E.funs.length c3] 26)) (.cells #[.slice none 0 0, .slice none 0 0, .slice none 0 0] 26)
    rw [hW2] at this
    simpa using this
  have hXl : w.heap.size < W2.heap.size := (Array.getElem?_eq_some_iff.1 hX).1
  have hYl : w.heap.size + 1 < W2.heap.size := (Array.getElem?_eq_some_iff.1 hY).1
  have HR := Lib.hid (And.intro (r1.below hb (Nat.le_refl _)) (And.intro (r2.below hb (Nat.le_refl _)) (r3.below hb (Nat.le_refl _))))
  have HB := Lib.hid hb
  have HXY := Lib.hid (And.intro hX (And.intro hY (And.intro hXl hYl)))
  obtain ⟨i0, hi, hz0, hz1, hz2⟩ := info_parts infoF
  have HI := Lib.hid (And.intro hi (And.intro hz0 (And.intro hz1 hz2)))
  have HSET := Lib.hid (stp_all (n := n) (v := x) ho)
  obtain ⟨N1, hN1⟩ : ∃ N, E.vars.length = N := ⟨_, rfl⟩
  obtain ⟨N2, hN2⟩ : ∃ N, E.args.length = N := ⟨_, rfl⟩
  obtain ⟨N3, hN3⟩ : ∃ N, E.funs.length = N := ⟨_, rfl⟩
  have HN := Lib.hid hN3
  rw [hN1, hN2, hN3] at hW2 HR HXY
  rw [hN1, hN2, hN3]
  rw [hN3] at hl
  have HK := Lib.hid (fun (W : World) (hW : Below W2.heap.size W2 W) => (show W.cell? ⟨w.heap.size, 0, none⟩ = some (.slice p1 N1 c1) ∧ W.cell? ⟨w.heap.size, 1, none⟩ = some (.slice p2 N2 c2) ∧ W.cell? ⟨w.heap.size, 2, none⟩ = some (.slice p3 N3 c3) from by
    have g1 := (hW.block _ HXY.out.2.2.1).trans HXY.out.1
    exact ⟨cell_of_row _ _ 0 _ _ _ g1, cell_of_row _ _ 1 _ _ _ g1, cell_of_row _ _ 2 _ _ _ g1⟩))
  clear h hb hX hY hXl hYl r1 r2 r3 hN1 hN2 hN3 hi hz0 hz1 hz2 ho
  go_enter Try.func14, Try.ntmps14
  go_wp2_with (rw [hW2]; clear hW2)
  go_loopw [7, 8, 9] (fun l d i wr => ∃ (k : Nat) (b : Bool) (R : List (ByteArray × Int)), i = .int .i64 (k : Int) ∧ d = .bool b ∧ k ≤ N3 ∧ (E.funs.take k).foldl (stp n x) (false, []) = (b, R) ∧ wr.ownsRow W2.heap.size 47 2 l R.length (R.flatMap fC) ∧ Below W2.heap.size W2 wr) (fun _ _ i _ => N3 - (intOf i).toNat)
  case atStart => exact ⟨0, false, [], rfl, rfl, by omega, rfl, World.ownsRow_nil _ _ _ _, Below.refl _ _⟩
  case round =>
    obtain ⟨k, b, R, rfl, rfl, hk, hfo, hown, hbw⟩ := hrel
    have HW := Lib.hid hbw
    have HO := Lib.hid hown
    have hk0 : (0 : Int) ≤ (k : Int) := by omega
    have hk9 : (k : Int) ≤ 1000 := by omega
    have hRl := stp_len n x (E.funs.take k) (false, [])
    rw [hfo] at hRl
    simp only [List.length_nil, List.length_take, Nat.zero_add] at hRl
    obtain ⟨k0, k1, k2⟩ := HK.out wr hbw
    have HRL := Lib.hid (show R.length ≤ 2000 by omega)
    clear hown hbw hRl
    by_cases hlt : k < N3
    · obtain ⟨y, hy⟩ : ∃ y, E.funs[k]? = some y := ⟨_, List.getElem?_eq_getElem (by rw [HN.out]; omega)⟩
      obtain ⟨b1, o1, rfl, hc1⟩ := (HR.out.2.2.below HW.out (Nat.le_refl _)).get hy
      have e1 := hc1 k y hy 0 _ rfl
      have e2 := hc1 k y hy 1 _ rfl
      rw [Nat.add_zero] at e1
      have htk : E.funs.take (k + 1) = E.funs.take k ++ [y] := by rw [List.take_add_one, hy]; rfl
      have hst : (E.funs.take (k + 1)).foldl (stp n x) (false, []) = stp n x (b, R) y := by rw [htk, List.foldl_append, hfo]; rfl
      obtain ⟨y1, y2⟩ := y
      have hI : (k : Int) < (N3 : Int) := by omega
      obtain ⟨WA, hWA⟩ : ∃ W, wr.alloc (.cells #[.string y1, .int .i64 y2] 47) = W := ⟨_, rfl⟩
      have hYA : Blk WA wr.heap.size (.cells #[.string y1, .int .i64 y2] 47) := by rw [← hWA]; exact Blk.new rfl
      have HA := Lib.hid (And.intro hYA (And.intro (show Below W2.heap.size W2 WA by rw [← hWA]; exact en_alloc HW.out _) (show WA.ownsRow W2.heap.size 47 2 _ R.length (R.flatMap fC) by rw [← hWA]; exact HO.out.alloc _)))
      have a0 := cell_of_row WA _ 0 _ _ _ hYA
      have a1 := cell_of_row WA _ 1 _ _ _ hYA
      have hFB := hYA.lt
      have HFB := Lib.hid hFB
      obtain ⟨k0, k1, k2⟩ := HK.out WA HA.out.2.1
      have HST := Lib.hid hst
      have HVL := Lib.hid (fun q (hq : u7.ownBlock = some q) => (HO.out.lt q hq).2)
      clear hc1 hy htk hst hYA hFB hfo
      cases b
      · cases hl : ltN y1 n
        · cases he : eqN y1 n
          · obtain ⟨J1, hJ1⟩ : ∃ J, R ++ [(n, x)] = J := ⟨_, rfl⟩
            obtain ⟨J, hJ⟩ : ∃ J, R ++ [(n, x)] ++ [(y1, y2)] = J := ⟨_, rfl⟩
            have HS := Lib.hid (show (E.funs.take (k + 1)).foldl (stp n x) (false, []) = (true, J) by rw [HST.out, ← hJ]; simp [stp, hl, he])
            have hz1 : Op.bytesLess y1.toList n.toList = false := hl
            have hz2 : (y1.toList == n.toList) = false := he
            have HJ := Lib.hid (And.intro hJ1 (show J1 ++ [(y1, y2)] = J by rw [← hJ1, hJ]))
            clear hJ1 hl he hJ
            go_wp2_with (first
              | (rw [hWA]; clear hWA)
              | (at_builtin; refine wpList_append_rd _ rfl (.tmp 31) (.tmp 35) 24 rfl 47 i0 _ 24 Try.underlying24 HI.out.1 HI.out.2.1 HI.out.2.2.1 HI.out.2.2.2 rfl fE W2.heap.size _ R [(n, x)] rfl (HA.out.2.2.alloc _) _ rfl (Rd.one WA rfl _ (n, x) rfl) (by have := HRL.out; simp; omega) (by have := HRL.out; unfold maxLen; simp; omega) (by have := HA.out.2.1.size; simp; omega) J1 HJ.out.1 ?_; intro v5 w5 ho5 hg5; have O5 := Lib.hid ho5; have B5 := Lib.hid ((en_alloc HA.out.2.1 _).grown hg5 (by have := HA.out.2.1.size; simp; omega) (fun q hq => (HO.out.lt q hq).1)); have Y5 := Lib.hid ((HA.out.1.alloc (.cells #[.string n, .int .i64 x] 47)).grown hg5 (fun e => Nat.lt_irrefl _ (HVL.out _ e.symm))); have b0 := cell_of_row w5 _ 0 _ _ _ Y5.out; have b1 := cell_of_row w5 _ 1 _ _ _ Y5.out; clear ho5 hg5)
              | (at_builtin; refine wpList_append_rd _ rfl (.tmp 41) (.tmp 43) 24 rfl 47 i0 _ 24 Try.underlying24 HI.out.1 HI.out.2.1 HI.out.2.2.1 HI.out.2.2.2 rfl fE W2.heap.size _ J1 [(y1, y2)] rfl (O5.out.alloc _) _ rfl (Rd.one w5 rfl _ (y1, y2) rfl) (by have := HRL.out; rw [← HJ.out.1]; simp; omega) (by have := HRL.out; rw [← HJ.out.1]; unfold maxLen; simp; omega) (by have := B5.out.size; simp; omega) J HJ.out.2 ?_; intro v6 w6 ho6 hg6; have O6 := Lib.hid ho6; have B6 := Lib.hid ((en_alloc B5.out _).grown hg6 (by have := B5.out.size; simp; omega) (fun q hq => (O5.out.lt q hq).1)); clear ho6 hg6))
            exact ⟨⟨k + 1, _, J, by go_num, rfl, by omega, HS.out, O6.out, B6.out⟩, by simp [intOf]; omega⟩
          · obtain ⟨J1, hJ1⟩ : ∃ J, R ++ [(n, x)] = J := ⟨_, rfl⟩
            obtain ⟨J, hJ⟩ : ∃ J, R ++ [(n, x)] = J := ⟨_, rfl⟩
            have HS := Lib.hid (show (E.funs.take (k + 1)).foldl (stp n x) (false, []) = (true, J) by rw [HST.out, ← hJ]; simp [stp, hl, he])
            have hz1 : Op.bytesLess y1.toList n.toList = false := hl
            have hz2 : (y1.toList == n.toList) = true := he
            have HJ := Lib.hid (show R ++ [(n, x)] = J from hJ)
            clear hJ1 hl he hJ
            go_wp2_with (first
              | (rw [hWA]; clear hWA)
              | (at_builtin; refine wpList_append_rd _ rfl (.tmp 31) (.tmp 35) 24 rfl 47 i0 _ 24 Try.underlying24 HI.out.1 HI.out.2.1 HI.out.2.2.1 HI.out.2.2.2 rfl fE W2.heap.size _ R [(n, x)] rfl (HA.out.2.2.alloc _) _ rfl (Rd.one WA rfl _ (n, x) rfl) (by have := HRL.out; simp; omega) (by have := HRL.out; unfold maxLen; simp; omega) (by have := HA.out.2.1.size; simp; omega) J HJ.out ?_; intro v5 w5 ho5 hg5; have O5 := Lib.hid ho5; have B5 := Lib.hid ((en_alloc HA.out.2.1 _).grown hg5 (by have := HA.out.2.1.size; simp; omega) (fun q hq => (HO.out.lt q hq).1)); have Y5 := Lib.hid ((HA.out.1.alloc (.cells #[.string n, .int .i64 x] 47)).grown hg5 (fun e => Nat.lt_irrefl _ (HVL.out _ e.symm))); have b0 := cell_of_row w5 _ 0 _ _ _ Y5.out; have b1 := cell_of_row w5 _ 1 _ _ _ Y5.out; clear ho5 hg5))
            exact ⟨⟨k + 1, _, J, by go_num, rfl, by omega, HS.out, O5.out, B5.out⟩, by simp [intOf]; omega⟩
        · have he := lt_ne hl
          obtain ⟨J1, hJ1⟩ : ∃ J, R ++ [(n, x)] = J := ⟨_, rfl⟩
          obtain ⟨J, hJ⟩ : ∃ J, R ++ [(y1, y2)] = J := ⟨_, rfl⟩
          have HS := Lib.hid (show (E.funs.take (k + 1)).foldl (stp n x) (false, []) = (false, J) by rw [HST.out, ← hJ]; simp [stp, hl, he])
          have hz1 : Op.bytesLess y1.toList n.toList = true := hl
          have hz2 : (y1.toList == n.toList) = false := he
          have HJ := Lib.hid (show R ++ [(y1, y2)] = J from hJ)
          clear hJ1 hl he hJ
          go_wp2_with (first
            | (rw [hWA]; clear hWA)
            | (at_builtin; refine wpList_append_rd _ rfl (.tmp 41) (.tmp 43) 24 rfl 47 i0 _ 24 Try.underlying24 HI.out.1 HI.out.2.1 HI.out.2.2.1 HI.out.2.2.2 rfl fE W2.heap.size _ R [(y1, y2)] rfl (HA.out.2.2.alloc _) _ rfl (Rd.one WA rfl _ (y1, y2) rfl) (by have := HRL.out; simp; omega) (by have := HRL.out; unfold maxLen; simp; omega) (by have := HA.out.2.1.size; simp; omega) J HJ.out ?_; intro v6 w6 ho6 hg6; have O6 := Lib.hid ho6; have B6 := Lib.hid ((en_alloc HA.out.2.1 _).grown hg6 (by have := HA.out.2.1.size; simp; omega) (fun q hq => (HO.out.lt q hq).1)); clear ho6 hg6))
          exact ⟨⟨k + 1, _, J, by go_num, rfl, by omega, HS.out, O6.out, B6.out⟩, by simp [intOf]; omega⟩
      · have hl : ltN y1 n = ltN y1 n := rfl
        cases he : eqN y1 n
        · obtain ⟨J1, hJ1⟩ : ∃ J, R ++ [(n, x)] = J := ⟨_, rfl⟩
          obtain ⟨J, hJ⟩ : ∃ J, R ++ [(y1, y2)] = J := ⟨_, rfl⟩
          have HS := Lib.hid (show (E.funs.take (k + 1)).foldl (stp n x) (false, []) = (true, J) by rw [HST.out, ← hJ]; simp [stp, he])
          have hz2 : (y1.toList == n.toList) = false := he
          have HJ := Lib.hid (show R ++ [(y1, y2)] = J from hJ)
          clear hJ1 hl he hJ
          go_wp2_with (first
            | (rw [hWA]; clear hWA)
            | (at_builtin; refine wpList_append_rd _ rfl (.tmp 41) (.tmp 43) 24 rfl 47 i0 _ 24 Try.underlying24 HI.out.1 HI.out.2.1 HI.out.2.2.1 HI.out.2.2.2 rfl fE W2.heap.size _ R [(y1, y2)] rfl (HA.out.2.2.alloc _) _ rfl (Rd.one WA rfl _ (y1, y2) rfl) (by have := HRL.out; simp; omega) (by have := HRL.out; unfold maxLen; simp; omega) (by have := HA.out.2.1.size; simp; omega) J HJ.out ?_; intro v6 w6 ho6 hg6; have O6 := Lib.hid ho6; have B6 := Lib.hid ((en_alloc HA.out.2.1 _).grown hg6 (by have := HA.out.2.1.size; simp; omega) (fun q hq => (HO.out.lt q hq).1)); clear ho6 hg6))
          exact ⟨⟨k + 1, _, J, by go_num, rfl, by omega, HS.out, O6.out, B6.out⟩, by simp [intOf]; omega⟩
        · obtain ⟨J1, hJ1⟩ : ∃ J, R ++ [(n, x)] = J := ⟨_, rfl⟩
          obtain ⟨J, hJ⟩ : ∃ J, R = J := ⟨_, rfl⟩
          have HS := Lib.hid (show (E.funs.take (k + 1)).foldl (stp n x) (false, []) = (true, J) by rw [HST.out, ← hJ]; simp [stp, he])
          have hz2 : (y1.toList == n.toList) = true := he
          subst hJ
          clear hJ1 hl he
          go_wp2_with (first
            | (rw [hWA]; clear hWA))
          exact ⟨⟨k + 1, _, R, by go_num, rfl, by omega, HS.out, HA.out.2.2, HA.out.2.1⟩, by simp [intOf]; omega⟩
    · have hI : ¬ ((k : Int) < (N3 : Int)) := by omega
      have htk : E.funs.take k = E.funs := List.take_of_length_le (by rw [HN.out]; omega)
      rw [htk] at hfo
      have hset := HSET.out
      rw [hfo] at hset
      have HSE := Lib.hid hset
      clear hset hfo htk
      cases b
      · have hfi : fin n x (false, R) = R ++ [(n, x)] := rfl
        obtain ⟨J, hJ⟩ : ∃ J, R ++ [(n, x)] = J := ⟨_, rfl⟩
        have HJ := Lib.hid (And.intro hJ (show setM E.funs n x = J by rw [← HSE.out, hfi, hJ]))
        clear hfi hJ hlt
        go_wp2_with (at_builtin; refine wpList_append_rd _ rfl _ _ 24 rfl 47 i0 _ 24 Try.underlying24 HI.out.1 HI.out.2.1 HI.out.2.2.1 HI.out.2.2.2 rfl fE W2.heap.size _ R [(n, x)] rfl (HO.out.alloc _) _ rfl (Rd.one wr rfl _ (n, x) rfl) (by have := HRL.out; simp; omega) (by have := HRL.out; unfold maxLen; simp; omega) (by have := HW.out.size; simp; omega) J HJ.out.1 ?_)
        intro v' w' ho3 hg3
        have HO3 := Lib.hid ho3
        have HB3 := Lib.hid ((en_alloc HW.out _).grown hg3 (by have := HW.out.size; simp; omega) (fun k hk => (HO.out.lt k hk).1))
        clear ho3 hg3
        have hrd := Rd.of_own fE HO3.out
        obtain ⟨q, d, rfl⟩ := hrd.shape
        have hX := (HB3.out.block _ HXY.out.2.2.1).trans HXY.out.1
        have hY := (HB3.out.block _ HXY.out.2.2.2).trans HXY.out.2.1
        have HE := Lib.hid (env_last (v := .slice q J.length d) (E := ⟨E.vars, E.args, J⟩) hX hY (HR.out.1.below HB3.out (Nat.le_refl _)) (HR.out.2.1.below HB3.out (Nat.le_refl _)) hrd)
        have x0 := cell_of_row _ _ 0 _ _ _ hX
        have x1 := cell_of_row _ _ 1 _ _ _ hX
        have x2 := cell_of_row _ _ 2 _ _ _ hX
        have f0 := frozen_of_row _ _ 2 _ _ hX
        have y0 := cell_of_row _ _ 0 _ _ _ hY
        have y1 := cell_of_row _ _ 1 _ _ _ hY
        have y2 := cell_of_row _ _ 2 _ _ _ hY
        have z0 := frozen_of_row _ _ 0 _ _ hY
        have z1 := frozen_of_row _ _ 1 _ _ hY
        have z2 := frozen_of_row _ _ 2 _ _ hY
        have HQ := Lib.hid (env_set (k := w.heap.size + 1) ((HB.out.trans (HB3.out.mono HB.out.size)).setCell (p := ⟨w.heap.size, 2, none⟩) (Nat.le_refl _) (.slice q J.length d)) (Nat.le_succ _) (.slice p1 N1 c1) (.slice p2 N2 c2) (.slice q J.length d))
        clear hrd hX hY
        generalize J.length = NJ at *
        go_wp2_with fail
        (try simp only [Exit.inBlock, Exit.then])
        refine bodyPost_ret (v := .agg #[.slice p1 N1 c1, .slice p2 N2 c2, .slice q NJ d]) ?_ rfl ⟨_, rfl, (by have h1 := HE.out.1; rw [← HJ.out.2] at h1; exact h1), HQ.out⟩
        exact ret_env rfl HE.out.2 rfl
      · have hfi : fin n x (true, R) = R := rfl
        have HJ := Lib.hid (show setM E.funs n x = R by rw [← HSE.out, hfi])
        clear hfi hlt
        have hrd := Rd.of_own fE HO.out
        obtain ⟨q, d, rfl⟩ := hrd.shape
        have hX := (HW.out.block _ HXY.out.2.2.1).trans HXY.out.1
        have hY := (HW.out.block _ HXY.out.2.2.2).trans HXY.out.2.1
        have HE := Lib.hid (env_last (v := .slice q R.length d) (E := ⟨E.vars, E.args, R⟩) hX hY (HR.out.1.below HW.out (Nat.le_refl _)) (HR.out.2.1.below HW.out (Nat.le_refl _)) hrd)
        have x0 := cell_of_row _ _ 0 _ _ _ hX
        have x1 := cell_of_row _ _ 1 _ _ _ hX
        have x2 := cell_of_row _ _ 2 _ _ _ hX
        have f0 := frozen_of_row _ _ 2 _ _ hX
        have y0 := cell_of_row _ _ 0 _ _ _ hY
        have y1 := cell_of_row _ _ 1 _ _ _ hY
        have y2 := cell_of_row _ _ 2 _ _ _ hY
        have z0 := frozen_of_row _ _ 0 _ _ hY
        have z1 := frozen_of_row _ _ 1 _ _ hY
        have z2 := frozen_of_row _ _ 2 _ _ hY
        have HQ := Lib.hid (env_set (k := w.heap.size + 1) ((HB.out.trans (HW.out.mono HB.out.size)).setCell (p := ⟨w.heap.size, 2, none⟩) (Nat.le_refl _) (.slice q R.length d)) (Nat.le_succ _) (.slice p1 N1 c1) (.slice p2 N2 c2) (.slice q R.length d))
        clear hrd hX hY
        generalize R.length = NJ at *
        go_wp2_with fail
        (try simp only [Exit.inBlock, Exit.then])
        refine bodyPost_ret (v := .agg #[.slice p1 N1 c1, .slice p2 N2 c2, .slice q NJ d]) ?_ rfl ⟨_, rfl, (by have h1 := HE.out.1; rw [← HJ.out] at h1; exact h1), HQ.out⟩
        exact ret_env rfl HE.out.2 rfl
end Go.Proofs.Ytbbopbbnhkcfdaa
