/-
  Proved: contracts of tree's all over words, rows of words, assigns, redirs, and of what it asks of each (pattern, assign, redir). Conditions: texts of at most 2^20 bytes.
-/
import Derived.Test.YtloaalapkmbgeaaDoorTreeTakes
import Derived.LoopTactic
namespace Go.Proofs.YtloaalapkmbgeaaDoor
open Go Go.RowKit GlyphMath LexMath TreeMath

theorem SlAt.cell {w : World} {size : Nat} {α : Type} {P : α → List Value → Prop} {v : Value} {l : List α} (h : SlAt w size α P v l) {b o n c : Nat} (hv : v = .slice (some ⟨b, o, none⟩) n c) {k : Nat} {x : α} (hk : l[k]? = some x) :
    ∃ cs, P x cs ∧ ∀ i u, cs[i]? = some u → w.cell? ⟨b, o + k * size + i, none⟩ = some u := by
  obtain ⟨⟨p, c', hv', hx⟩, -⟩ := h
  obtain ⟨cs, ⟨b', o', hp, hc⟩, hP⟩ := hx k x hk
  subst hp
  rw [hv] at hv'
  simp only [Value.slice.injEq, Option.some.injEq, Addr.mk.injEq, and_true] at hv'
  obtain ⟨⟨rfl, rfl⟩, -⟩ := hv'
  exact ⟨cs, hP, hc⟩
/-- A row's pointer, if something stands in it. -/
theorem SlAt.ptr {w : World} {size : Nat} {α : Type} {P : α → List Value → Prop} {p : Option Addr} {n c : Nat} {l : List α} (h : SlAt w size α P (.slice p n c) l) {k : Nat} {x : α} (hk : l[k]? = some x) : ∃ b o, p = some ⟨b, o, none⟩ := by
  obtain ⟨⟨p', c', hv', hx⟩, -⟩ := h
  obtain ⟨cs, ⟨b', o', hp, hc⟩, hP⟩ := hx k x hk
  subst hp
  simp only [Value.slice.injEq] at hv'
  exact ⟨_, _, hv'.1⟩
theorem WsAt.is {w : World} {v : Value} {l : List (List Pt)} (h : WsAt w v l) : ∃ p c, v = .slice p l.length c := by
  obtain ⟨⟨p, c, hv, -⟩, -⟩ := h
  exact ⟨p, c, hv⟩
theorem PatsAt.is {w : World} {v : Value} {l : List (List (List Pt))} (h : PatsAt w v l) : ∃ p c, v = .slice p l.length c := by
  obtain ⟨⟨p, c, hv, -⟩, -⟩ := h
  exact ⟨p, c, hv⟩
theorem AsAt.is {w : World} {v : Value} {l : List (List UInt8 × List Pt)} (h : AsAt w v l) : ∃ p c, v = .slice p l.length c := by
  obtain ⟨⟨p, c, hv, -⟩, -⟩ := h
  exact ⟨p, c, hv⟩
theorem KidsAt.is {w : World} {v : Value} {l : List Int} (h : KidsAt w v l) : ∃ p c, v = .slice p l.length c := by
  obtain ⟨⟨p, c, hv, -⟩, -⟩ := h
  exact ⟨p, c, hv⟩
theorem NsAt.is {w : World} {v : Value} {l : List Nd} (h : NsAt w v l) : ∃ p c, v = .slice p l.length c := by
  obtain ⟨⟨p, c, hv, -⟩, -⟩ := h
  exact ⟨p, c, hv⟩

set_option maxRecDepth 100000 in
theorem assign_any (a : List UInt8 × List Pt) (u : Value) (w : World) (hu : PsAt w u a.2) (hs : Small a.2) :
    Calls Tryd.prog 53 #[.agg #[txt a.1, u]] w fun e w' => e = .returned (.bool (assignT a)) ∧ Below w.heap.size w w' := by
  obtain ⟨n, ps⟩ := a
  obtain ⟨p, c, rfl, -, -⟩ := hu.is
  have HB := Lib.hid (fun o => below_one w o)
  have HW := Lib.hid (fun W (hb : Below w.heap.size w W) => word_any ps _ W (hu.stays hb) hs)
  have HN := Lib.hid (fun W => name_any (T n) W)
  have HR := Lib.hid (show assignT (n, ps) = (nameL (letters (T n)) && wordT ps) from rfl)
  obtain ⟨R, hR⟩ : ∃ R, assignT (n, ps) = R := ⟨_, rfl⟩
  rw [hR] at HR ⊢
  show Calls _ _ #[.agg #[.string (T n), .slice p ps.length c]] _ _
  unfold wordV at HW
  generalize ps.length = L at HW ⊢
  obtain ⟨A, hA⟩ : ∃ A, nameL (letters (T n)) = A := ⟨_, rfl⟩
  obtain ⟨B, hB⟩ : ∃ B, wordT ps = B := ⟨_, rfl⟩
  rw [hA] at HN HR
  rw [hB] at HR HW
  generalize T n = s at HN ⊢
  have hc := heap_alloc_new w (.cells #[.string s, .slice p L c] 86)
  have h0 := cell_plain hc 0
  have h1 : (w.alloc (.cells #[.string s, .slice p L c] 86)).cell? ⟨w.heap.size, 1, none⟩ = some (.slice p L c) := cell_plain hc 1
  have H1 := Lib.hid h1
  clear hR hA hB hu hs hc h0 h1
  cases A
  all_goals
    go_enter Tryd.func53, Tryd.ntmps53
    go_wp2_with (first
      | (go_at_call 47; refine (HN.out _).mono ?_; rintro e w1 ⟨rfl, hb⟩; have hx := cell_below H1.out hb; have HB1 := Lib.hid ((HB.out _).trans (hb.mono (HB.out _).size)); clear hb)
      | (go_at_call 13; refine (HW.out _ HB1.out).mono ?_; rintro e w2 ⟨rfl, hb⟩; have HB2 := Lib.hid (HB1.out.trans (hb.mono HB1.out.size)); clear hb))
    go_ret
    first | exact ⟨ret_bool HR.out.symm, HB2.out⟩ | exact ⟨ret_bool HR.out.symm, HB1.out⟩

set_option maxRecDepth 100000 in
theorem redir_any (a : List UInt8 × List Pt) (u : Value) (w : World) (hu : PsAt w u a.2) (hs : Small a.2) :
    Calls Tryd.prog 55 #[.agg #[txt a.1, u]] w fun e w' => e = .returned (.bool (redirT a)) ∧ Below w.heap.size w w' := by
  obtain ⟨n, ps⟩ := a
  obtain ⟨p, c, rfl, -, -⟩ := hu.is
  have HB := Lib.hid (fun o => below_one w o)
  have HW := Lib.hid (fun W (hb : Below w.heap.size w W) => bare_any ps _ W (hu.stays hb) hs)
  have HR := Lib.hid (show redirT (n, ps) = ((n == [60] || (n == [62] || n == [62, 62])) && bareW ps) from rfl)
  obtain ⟨R, hR⟩ : ∃ R, redirT (n, ps) = R := ⟨_, rfl⟩
  rw [hR] at HR ⊢
  show Calls _ _ #[.agg #[.string (T n), .slice p ps.length c]] _ _
  unfold wordV at HW
  generalize ps.length = L at HW ⊢
  obtain ⟨B, hB⟩ : ∃ B, bareW ps = B := ⟨_, rfl⟩
  rw [hB] at HR HW
  obtain ⟨o, ho⟩ : ∃ o, T n = o := ⟨_, rfl⟩
  have hl : o.toList = n := by rw [← ho, Lib.toList_data]
  rw [ho]
  rw [← hl] at HR
  obtain ⟨x, hx⟩ : ∃ x, (o.toList == [60]) = x := ⟨_, rfl⟩
  obtain ⟨y, hy⟩ : ∃ x, (o.toList == [62]) = x := ⟨_, rfl⟩
  obtain ⟨z, hz⟩ : ∃ x, (o.toList == [62, 62]) = x := ⟨_, rfl⟩
  rw [hx, hy, hz] at HR
  clear hR hB hu hs ho hl
  cases x <;> cases y <;> cases z
  all_goals
    go_enter Tryd.func55, Tryd.ntmps55
    go_wp2_with (go_at_call 49; refine (HW.out _ (HB.out _)).mono ?_; rintro e w2 ⟨rfl, hb⟩; have HB2 := Lib.hid ((HB.out _).trans (hb.mono (HB.out _).size)); clear hb)
    go_ret
    first | exact ⟨ret_bool HR.out.symm, HB2.out⟩ | exact ⟨ret_bool HR.out.symm, HB.out _⟩

set_option maxHeartbeats 1000000 in
set_option maxRecDepth 100000 in
theorem allw_any (l : List (List Pt)) (v : Value) (w : World) (hv : WsAt w v l) (hs : ∀ x ∈ l, Small x) :
    Calls Tryd.prog 48 #[v, .func (.func 49) #[] #[]] w fun e w' => e = .returned (.bool (l.all bareW)) ∧ Below w.heap.size w w' := by
  have HV := Lib.hid hv
  have HS := Lib.hid hs
  obtain ⟨p, c, rfl⟩ := WsAt.is hv
  have hfew := hv.few
  obtain ⟨R, hR⟩ : ∃ R, l.all bareW = R := ⟨_, rfl⟩
  have HR := Lib.hid hR
  obtain ⟨N, hN⟩ : ∃ N, l.length = N := ⟨_, rfl⟩
  have HN := Lib.hid hN
  have hN0 : (N : Int) ≤ 2 ^ 63 - 1 := by unfold maxLen at hfew; omega
  rw [hR]
  rw [hN] at HV ⊢
  clear hv hs hR hN hfew
  go_enter Tryd.func48, Tryd.ntmps48
  go_wp2_with fail
  go_loopw [9] (fun i wr => ∃ j, j ≤ N ∧ i = .int .i64 (j : Int) ∧ Below w.heap.size w wr ∧ (l.drop j).all bareW = R) (fun i _ => N - (intOf i).toNat)
  case atStart => exact ⟨0, by omega, rfl, Below.refl _ _, HR.out⟩
  case round =>
    obtain ⟨j, hj, rfl, hb, hsd⟩ := hrel
    by_cases hlt : j < N
    · obtain ⟨x, hx⟩ : ∃ x, l[j]? = some x := ⟨_, List.getElem?_eq_getElem (by rw [HN.out]; exact hlt)⟩
      obtain ⟨b, o, rfl⟩ := SlAt.ptr HV.out hx
      obtain ⟨cs, ⟨u, rfl, hu⟩, hc⟩ := SlAt.cell HV.out rfl hx
      have hj0 : (j : Int) < (N : Int) := by omega
      have HSX := Lib.hid (HS.out x (List.mem_of_getElem? hx))
      rw [drop_get hx, List.all_cons] at hsd
      have HSD := Lib.hid hsd
      have HB := Lib.hid hb
      have HJ := Lib.hid hlt
      have c0 : wr.cell? ⟨b, o + j, none⟩ = some u := by
        have := cell_below (hc 0 _ rfl) hb
        rwa [show o + j * 1 + 0 = o + j by omega] at this
      obtain ⟨up, uc, rfl, -, -⟩ := hu.is
      have HE := Lib.hid (bare_any x (.slice up x.length uc) (wr.alloc (.cells #[.slice up x.length uc] 33)) (hu.stays (hb.trans ((below_one _ _).mono hb.size))) HSX.out)
      unfold wordV at HE
      obtain ⟨ul, hul⟩ : ∃ ul, x.length = ul := ⟨_, rfl⟩
      rw [hul] at HE c0
      clear hul
      clear hsd hb hlt hj hx hc hu
      obtain ⟨P, hP⟩ : ∃ P, bareW x = P := ⟨_, rfl⟩
      rw [hP] at HE HSD
      clear hP
      cases P
      · have HF := Lib.hid (show false = R from HSD.out)
        go_wp2_with (go_at_call 49; refine HE.out.mono ?_; rintro e w2 ⟨rfl, hb2⟩; have HB2 := Lib.hid hb2; clear hb2)
        go_ret
        exact ⟨ret_bool HF.out, HB.out.trans (((below_one _ _).trans (HB2.out.mono (below_one _ _).size)).mono HB.out.size)⟩
      · have HF := Lib.hid (show (l.drop (j + 1)).all bareW = R from HSD.out)
        go_wp2_with (go_at_call 49; refine HE.out.mono ?_; rintro e w2 ⟨rfl, hb2⟩; have HB2 := Lib.hid hb2; clear hb2)
        exact ⟨⟨j + 1, by have := HJ.out; omega, by go_num, HB.out.trans (((below_one _ _).trans (HB2.out.mono (below_one _ _).size)).mono HB.out.size), HF.out⟩, by have := HJ.out; simp [intOf]; omega⟩
    · obtain rfl : j = N := by omega
      have hj0 : ¬ (j : Int) < (j : Int) := by omega
      rw [List.drop_of_length_le (by rw [HN.out]; exact Nat.le_refl _)] at hsd
      have HE := Lib.hid (show true = R from hsd)
      have HB := Lib.hid hb
      clear hsd hb hlt hj
      go_wp2_with fail
      go_ret
      exact ⟨ret_bool HE.out, HB.out⟩

set_option maxRecDepth 100000 in
theorem pattern_any (l : List (List Pt)) (v : Value) (w : World) (hv : WsAt w v l) (hs : ∀ x ∈ l, Small x) :
    Calls Tryd.prog 51 #[v] w fun e w' => e = .returned (.bool (patT l)) ∧ Below w.heap.size w w' := by
  have HA := Lib.hid (allw_any l v w hv hs)
  obtain ⟨p, c, rfl⟩ := WsAt.is hv
  have HR := Lib.hid (show patT l = (!l.isEmpty && l.all bareW) from rfl)
  have hpos : decide ((0 : Int) < (l.length : Int)) = !l.isEmpty := by
    cases l with
    | nil => rfl
    | cons a r => exact decide_eq_true (by rw [List.length_cons]; omega)
  obtain ⟨R, hR⟩ : ∃ R, patT l = R := ⟨_, rfl⟩
  rw [hR] at HR ⊢
  generalize l.isEmpty = E at hpos HR
  generalize l.length = L at hpos HA ⊢
  generalize l.all bareW = B at HA HR
  clear hR hv hs
  cases E with
  | true =>
    have hn : ¬ (0 : Int) < (L : Int) := of_decide_eq_false hpos
    clear hpos
    go_enter Tryd.func51, Tryd.ntmps51
    go_wp2_with fail
    go_ret
    exact ⟨ret_bool HR.out.symm, Below.refl _ _⟩
  | false =>
    have hn : (0 : Int) < (L : Int) := of_decide_eq_true hpos
    clear hpos
    go_enter Tryd.func51, Tryd.ntmps51
    go_wp2_with (go_at_call 48; refine HA.out.mono ?_; rintro e w1 ⟨rfl, hb⟩; have HB1 := Lib.hid hb; clear hb)
    go_ret
    exact ⟨ret_bool HR.out.symm, HB1.out⟩

set_option maxHeartbeats 1000000 in
set_option maxRecDepth 100000 in
theorem allp_any (l : List (List (List Pt))) (v : Value) (w : World) (hv : PatsAt w v l) (hs : ∀ x ∈ l, ∀ y ∈ x, Small y) :
    Calls Tryd.prog 50 #[v, .func (.func 51) #[] #[]] w fun e w' => e = .returned (.bool (l.all patT)) ∧ Below w.heap.size w w' := by
  have HV := Lib.hid hv
  have HS := Lib.hid hs
  obtain ⟨p, c, rfl⟩ := PatsAt.is hv
  have hfew := hv.few
  obtain ⟨R, hR⟩ : ∃ R, l.all patT = R := ⟨_, rfl⟩
  have HR := Lib.hid hR
  obtain ⟨N, hN⟩ : ∃ N, l.length = N := ⟨_, rfl⟩
  have HN := Lib.hid hN
  have hN0 : (N : Int) ≤ 2 ^ 63 - 1 := by unfold maxLen at hfew; omega
  rw [hR]
  rw [hN] at HV ⊢
  clear hv hs hR hN hfew
  go_enter Tryd.func50, Tryd.ntmps50
  go_wp2_with fail
  go_loopw [9] (fun i wr => ∃ j, j ≤ N ∧ i = .int .i64 (j : Int) ∧ Below w.heap.size w wr ∧ (l.drop j).all patT = R) (fun i _ => N - (intOf i).toNat)
  case atStart => exact ⟨0, by omega, rfl, Below.refl _ _, HR.out⟩
  case round =>
    obtain ⟨j, hj, rfl, hb, hsd⟩ := hrel
    by_cases hlt : j < N
    · obtain ⟨x, hx⟩ : ∃ x, l[j]? = some x := ⟨_, List.getElem?_eq_getElem (by rw [HN.out]; exact hlt)⟩
      obtain ⟨b, o, rfl⟩ := SlAt.ptr HV.out hx
      obtain ⟨cs, ⟨u, rfl, hu⟩, hc⟩ := SlAt.cell HV.out rfl hx
      have hj0 : (j : Int) < (N : Int) := by omega
      have HSX := Lib.hid (HS.out x (List.mem_of_getElem? hx))
      rw [drop_get hx, List.all_cons] at hsd
      have HSD := Lib.hid hsd
      have HB := Lib.hid hb
      have HJ := Lib.hid hlt
      have c0 : wr.cell? ⟨b, o + j, none⟩ = some u := by
        have := cell_below (hc 0 _ rfl) hb
        rwa [show o + j * 1 + 0 = o + j by omega] at this
      obtain ⟨up, uc, rfl⟩ := WsAt.is hu
      have HE := Lib.hid (pattern_any x (.slice up x.length uc) wr (WsAt.below hu hb) HSX.out)
      obtain ⟨ul, hul⟩ : ∃ ul, x.length = ul := ⟨_, rfl⟩
      rw [hul] at HE c0
      clear hul
      clear hsd hb hlt hj hx hc hu
      obtain ⟨P, hP⟩ : ∃ P, patT x = P := ⟨_, rfl⟩
      rw [hP] at HE HSD
      clear hP
      cases P
      · have HF := Lib.hid (show false = R from HSD.out)
        go_wp2_with (go_at_call 51; refine HE.out.mono ?_; rintro e w2 ⟨rfl, hb2⟩; have HB2 := Lib.hid hb2; clear hb2)
        go_ret
        exact ⟨ret_bool HF.out, HB.out.trans (HB2.out.mono HB.out.size)⟩
      · have HF := Lib.hid (show (l.drop (j + 1)).all patT = R from HSD.out)
        go_wp2_with (go_at_call 51; refine HE.out.mono ?_; rintro e w2 ⟨rfl, hb2⟩; have HB2 := Lib.hid hb2; clear hb2)
        exact ⟨⟨j + 1, by have := HJ.out; omega, by go_num, HB.out.trans (HB2.out.mono HB.out.size), HF.out⟩, by have := HJ.out; simp [intOf]; omega⟩
    · obtain rfl : j = N := by omega
      have hj0 : ¬ (j : Int) < (j : Int) := by omega
      rw [List.drop_of_length_le (by rw [HN.out]; exact Nat.le_refl _)] at hsd
      have HE := Lib.hid (show true = R from hsd)
      have HB := Lib.hid hb
      clear hsd hb hlt hj
      go_wp2_with fail
      go_ret
      exact ⟨ret_bool HE.out, HB.out⟩

set_option maxHeartbeats 1000000 in
set_option maxRecDepth 100000 in
theorem alla_any (l : List (List UInt8 × List Pt)) (v : Value) (w : World) (hv : AsAt w v l) (hs : ∀ x ∈ l, Small x.2) :
    Calls Tryd.prog 52 #[v, .func (.func 53) #[] #[]] w fun e w' => e = .returned (.bool (l.all assignT)) ∧ Below w.heap.size w w' := by
  have HV := Lib.hid hv
  have HS := Lib.hid hs
  obtain ⟨p, c, rfl⟩ := AsAt.is hv
  have hfew := hv.few
  obtain ⟨R, hR⟩ : ∃ R, l.all assignT = R := ⟨_, rfl⟩
  have HR := Lib.hid hR
  obtain ⟨N, hN⟩ : ∃ N, l.length = N := ⟨_, rfl⟩
  have HN := Lib.hid hN
  have hN0 : (N : Int) ≤ 2 ^ 63 - 1 := by unfold maxLen at hfew; omega
  rw [hR]
  rw [hN] at HV ⊢
  clear hv hs hR hN hfew
  go_enter Tryd.func52, Tryd.ntmps52
  go_wp2_with fail
  go_loopw [9] (fun i wr => ∃ j, j ≤ N ∧ i = .int .i64 (j : Int) ∧ Below w.heap.size w wr ∧ (l.drop j).all assignT = R) (fun i _ => N - (intOf i).toNat)
  case atStart => exact ⟨0, by omega, rfl, Below.refl _ _, HR.out⟩
  case round =>
    obtain ⟨j, hj, rfl, hb, hsd⟩ := hrel
    by_cases hlt : j < N
    · obtain ⟨x, hx⟩ : ∃ x, l[j]? = some x := ⟨_, List.getElem?_eq_getElem (by rw [HN.out]; exact hlt)⟩
      obtain ⟨b, o, rfl⟩ := SlAt.ptr HV.out hx
      obtain ⟨cs, ⟨u, rfl, hu⟩, hc⟩ := SlAt.cell HV.out rfl hx
      have hj0 : (j : Int) < (N : Int) := by omega
      have HSX := Lib.hid (HS.out x (List.mem_of_getElem? hx))
      rw [drop_get hx, List.all_cons] at hsd
      have HSD := Lib.hid hsd
      have HB := Lib.hid hb
      have HJ := Lib.hid hlt
      have c0 : wr.cell? ⟨b, o + j * 2, none⟩ = some (.string (T x.1)) := by
        have := cell_below (hc 0 _ rfl) hb
        rwa [show o + j * 2 + 0 = o + j * 2 by omega] at this
      have c1 : wr.cell? ⟨b, o + j * 2 + 1, none⟩ = some u := cell_below (hc 1 _ rfl) hb
      obtain ⟨up, uc, rfl, -, -⟩ := hu.is
      obtain ⟨s, hss⟩ : ∃ s, T x.1 = s := ⟨_, rfl⟩
      have HE := Lib.hid (show Calls Tryd.prog 53 #[.agg #[.string s, .slice up x.2.length uc]] (wr.alloc (.cells #[.string s, .slice up x.2.length uc] 86)) fun e w' => e = .returned (.bool (assignT x)) ∧ Below (wr.alloc (.cells #[.string s, .slice up x.2.length uc] 86)).heap.size (wr.alloc (.cells #[.string s, .slice up x.2.length uc] 86)) w' from by
        rw [← hss]
        exact assign_any x (.slice up x.2.length uc) _ (hu.stays (hb.trans ((below_one _ _).mono hb.size))) HSX.out)
      obtain ⟨ul, hul⟩ : ∃ ul, x.2.length = ul := ⟨_, rfl⟩
      rw [hul] at HE c1
      rw [hss] at c0
      clear hul hss
      clear hsd hb hlt hj hx hc hu
      obtain ⟨P, hP⟩ : ∃ P, assignT x = P := ⟨_, rfl⟩
      rw [hP] at HE HSD
      clear hP
      cases P
      · have HF := Lib.hid (show false = R from HSD.out)
        go_wp2_with (go_at_call 53; refine HE.out.mono ?_; rintro e w2 ⟨rfl, hb2⟩; have HB2 := Lib.hid hb2; clear hb2)
        go_ret
        exact ⟨ret_bool HF.out, HB.out.trans (((below_one _ _).trans (HB2.out.mono (below_one _ _).size)).mono HB.out.size)⟩
      · have HF := Lib.hid (show (l.drop (j + 1)).all assignT = R from HSD.out)
        go_wp2_with (go_at_call 53; refine HE.out.mono ?_; rintro e w2 ⟨rfl, hb2⟩; have HB2 := Lib.hid hb2; clear hb2)
        exact ⟨⟨j + 1, by have := HJ.out; omega, by go_num, HB.out.trans (((below_one _ _).trans (HB2.out.mono (below_one _ _).size)).mono HB.out.size), HF.out⟩, by have := HJ.out; simp [intOf]; omega⟩
    · obtain rfl : j = N := by omega
      have hj0 : ¬ (j : Int) < (j : Int) := by omega
      rw [List.drop_of_length_le (by rw [HN.out]; exact Nat.le_refl _)] at hsd
      have HE := Lib.hid (show true = R from hsd)
      have HB := Lib.hid hb
      clear hsd hb hlt hj
      go_wp2_with fail
      go_ret
      exact ⟨ret_bool HE.out, HB.out⟩

set_option maxHeartbeats 1000000 in
set_option maxRecDepth 100000 in
theorem allr_any (l : List (List UInt8 × List Pt)) (v : Value) (w : World) (hv : AsAt w v l) (hs : ∀ x ∈ l, Small x.2) :
    Calls Tryd.prog 54 #[v, .func (.func 55) #[] #[]] w fun e w' => e = .returned (.bool (l.all redirT)) ∧ Below w.heap.size w w' := by
  have HV := Lib.hid hv
  have HS := Lib.hid hs
  obtain ⟨p, c, rfl⟩ := AsAt.is hv
  have hfew := hv.few
  obtain ⟨R, hR⟩ : ∃ R, l.all redirT = R := ⟨_, rfl⟩
  have HR := Lib.hid hR
  obtain ⟨N, hN⟩ : ∃ N, l.length = N := ⟨_, rfl⟩
  have HN := Lib.hid hN
  have hN0 : (N : Int) ≤ 2 ^ 63 - 1 := by unfold maxLen at hfew; omega
  rw [hR]
  rw [hN] at HV ⊢
  clear hv hs hR hN hfew
  go_enter Tryd.func54, Tryd.ntmps54
  go_wp2_with fail
  go_loopw [9] (fun i wr => ∃ j, j ≤ N ∧ i = .int .i64 (j : Int) ∧ Below w.heap.size w wr ∧ (l.drop j).all redirT = R) (fun i _ => N - (intOf i).toNat)
  case atStart => exact ⟨0, by omega, rfl, Below.refl _ _, HR.out⟩
  case round =>
    obtain ⟨j, hj, rfl, hb, hsd⟩ := hrel
    by_cases hlt : j < N
    · obtain ⟨x, hx⟩ : ∃ x, l[j]? = some x := ⟨_, List.getElem?_eq_getElem (by rw [HN.out]; exact hlt)⟩
      obtain ⟨b, o, rfl⟩ := SlAt.ptr HV.out hx
      obtain ⟨cs, ⟨u, rfl, hu⟩, hc⟩ := SlAt.cell HV.out rfl hx
      have hj0 : (j : Int) < (N : Int) := by omega
      have HSX := Lib.hid (HS.out x (List.mem_of_getElem? hx))
      rw [drop_get hx, List.all_cons] at hsd
      have HSD := Lib.hid hsd
      have HB := Lib.hid hb
      have HJ := Lib.hid hlt
      have c0 : wr.cell? ⟨b, o + j * 2, none⟩ = some (.string (T x.1)) := by
        have := cell_below (hc 0 _ rfl) hb
        rwa [show o + j * 2 + 0 = o + j * 2 by omega] at this
      have c1 : wr.cell? ⟨b, o + j * 2 + 1, none⟩ = some u := cell_below (hc 1 _ rfl) hb
      obtain ⟨up, uc, rfl, -, -⟩ := hu.is
      obtain ⟨s, hss⟩ : ∃ s, T x.1 = s := ⟨_, rfl⟩
      have HE := Lib.hid (show Calls Tryd.prog 55 #[.agg #[.string s, .slice up x.2.length uc]] (wr.alloc (.cells #[.string s, .slice up x.2.length uc] 90)) fun e w' => e = .returned (.bool (redirT x)) ∧ Below (wr.alloc (.cells #[.string s, .slice up x.2.length uc] 90)).heap.size (wr.alloc (.cells #[.string s, .slice up x.2.length uc] 90)) w' from by
        rw [← hss]
        exact redir_any x (.slice up x.2.length uc) _ (hu.stays (hb.trans ((below_one _ _).mono hb.size))) HSX.out)
      obtain ⟨ul, hul⟩ : ∃ ul, x.2.length = ul := ⟨_, rfl⟩
      rw [hul] at HE c1
      rw [hss] at c0
      clear hul hss
      clear hsd hb hlt hj hx hc hu
      obtain ⟨P, hP⟩ : ∃ P, redirT x = P := ⟨_, rfl⟩
      rw [hP] at HE HSD
      clear hP
      cases P
      · have HF := Lib.hid (show false = R from HSD.out)
        go_wp2_with (go_at_call 55; refine HE.out.mono ?_; rintro e w2 ⟨rfl, hb2⟩; have HB2 := Lib.hid hb2; clear hb2)
        go_ret
        exact ⟨ret_bool HF.out, HB.out.trans (((below_one _ _).trans (HB2.out.mono (below_one _ _).size)).mono HB.out.size)⟩
      · have HF := Lib.hid (show (l.drop (j + 1)).all redirT = R from HSD.out)
        go_wp2_with (go_at_call 55; refine HE.out.mono ?_; rintro e w2 ⟨rfl, hb2⟩; have HB2 := Lib.hid hb2; clear hb2)
        exact ⟨⟨j + 1, by have := HJ.out; omega, by go_num, HB.out.trans (((below_one _ _).trans (HB2.out.mono (below_one _ _).size)).mono HB.out.size), HF.out⟩, by have := HJ.out; simp [intOf]; omega⟩
    · obtain rfl : j = N := by omega
      have hj0 : ¬ (j : Int) < (j : Int) := by omega
      rw [List.drop_of_length_le (by rw [HN.out]; exact Nat.le_refl _)] at hsd
      have HE := Lib.hid (show true = R from hsd)
      have HB := Lib.hid hb
      clear hsd hb hlt hj
      go_wp2_with fail
      go_ret
      exact ⟨ret_bool HE.out, HB.out⟩
end Go.Proofs.YtloaalapkmbgeaaDoor
