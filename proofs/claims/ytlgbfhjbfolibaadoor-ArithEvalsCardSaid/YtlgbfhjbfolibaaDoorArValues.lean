/-
  Proved: contracts of arith's values and of. Conditions: at most 20 bindings, as whoever reads them; the library's two sentinel errors read as laid.
-/
import Derived.Test.YtlgbfhjbfolibaaDoorArVars
import Derived.Test.YtlgbfhjbfolibaaDoorArNum
import Derived.Deep.LoopGhost
import Derived.LoopTactic
namespace Go.Proofs.YtlgbfhjbfolibaaDoor
open Go Go.Shelf Go.RowKit ArMath

section
variable {vs : Vars}
set_option maxRecDepth 8000 in
set_option maxHeartbeats 2000000 in
theorem values_any (vv : Value) (w : World) (hv : VarsAt w vv vs) (hg : GlobA w) :
    Calls Tryd.prog 59 #[vv] w fun e w' => ∃ b m D, e = .returned (.map (some b)) ∧ w.heap.size ≤ b ∧ w'.ownsMap Tryd.prog 9 valE b m D ∧ MapSays D vs ∧ Below w.heap.size w w' := by
  obtain ⟨p, c, rfl, h20, hj⟩ := hv
  have HJ := Lib.hid hj
  have HG := Lib.hid hg
  obtain ⟨L, hL⟩ : ∃ L, vs.length = L := ⟨_, rfl⟩
  have HL := Lib.hid hL
  rw [hL] at h20 ⊢
  have HMM := Lib.hid (World.ownsMap_made w Tryd.prog 9 valE)
  have HB0 := Lib.hid (show Below w.heap.size w (w.alloc (.map #[] 0)) from (Below.refl _ w).alloc (Nat.le_refl _) _)
  clear hj hg hL
  have hmm := @run_makeMap Tryd.prog
  go_enter Tryd.func59, Tryd.ntmps59
  go_wp2_with fail
  go_loopg [13] L (fun gf s13 wx => ∃ j : Nat, s13 = .int .i64 j ∧ j + gf = L ∧ Hid (∃ m D, wx.ownsMap Tryd.prog 9 valE w.heap.size m D ∧ m ≤ j ∧ MapSays D (vs.take j) ∧ Below w.heap.size w wx))
  case atStart => exact ⟨0, rfl, by omega, Lib.hid ⟨_, _, HMM.out, Nat.le_refl _, says_nil, HB0.out⟩⟩
  case round =>
    obtain ⟨j, rfl, hjg, hrel⟩ := hrel
    obtain ⟨m, D, hown, hmj, hsay, hbw⟩ := hrel.out
    clear hrel
    by_cases hlt : j < L
    · obtain ⟨g', rfl⟩ : ∃ g', gk = g' + 1 := ⟨gk - 1, by omega⟩
      obtain ⟨⟨k, v⟩, hx⟩ : ∃ x, vs[j]? = some x := ⟨_, List.getElem?_eq_getElem (by rw [HL.out]; exact hlt)⟩
      obtain ⟨hk, hv, b, o, rfl, hc0, hc1⟩ := HJ.out j (k, v) hx
      have hb := World.block_lt_of_cell? _ _ hc0
      have d0 : wr.cell? ⟨b, o + j * 2, none⟩ = some (.string (tx k)) := (World.cell?_of_block (hbw.block b hb)).trans hc0
      have d1 : wr.cell? ⟨b, o + j * 2 + 1, none⟩ = some (.string (tx v)) := (World.cell?_of_block (hbw.block b hb)).trans hc1
      have hjI : (j : Int) < (L : Int) := by omega
      have hjI2 : (j : Int) + 1 ≤ 9223372036854775807 := by omega
      have hj0 : (0 : Int) ≤ (j : Int) := by omega
      have htk : vs.take (j + 1) = vs.take j ++ [(k, v)] := by
        rw [List.take_add_one, hx]; rfl
      have HS := Lib.hid hsay
      have HK := Lib.hid (And.intro hk hv)
      have HBW := Lib.hid hbw
      have HTK := Lib.hid htk
      have HMJ := Lib.hid hmj
      obtain ⟨A, hA⟩ : ∃ A, (vs.take j).any (fun x => x.1 == k) = A := ⟨_, rfl⟩
      have HA := Lib.hid hA
      have HLK := Lib.hid (fun o => look_at (hown.alloc o) hsay k hk)
      simp only [hA] at HLK
      obtain ⟨z1, hz1⟩ : ∃ z, (if A then (envM (vs.take j) k).1 else 0) = z := ⟨_, rfl⟩
      obtain ⟨z2, hz2⟩ : ∃ z, (if A then (envM (vs.take j) k).2 else false) = z := ⟨_, rfl⟩
      rw [hz1, hz2] at HLK
      have HE := Lib.hid (show (tx v).toList.isEmpty = decide (v = []) by rw [tx_toList]; cases v <;> simp)
      have HNM := Lib.hid (fun W hW => num_any v hv W hW)
      have HKY := Lib.hid (keyS hk)
      obtain ⟨TK, hTK⟩ : ∃ T, tx k = T := ⟨_, rfl⟩
      obtain ⟨TV, hTV⟩ : ∃ T, tx v = T := ⟨_, rfl⟩
      rw [hTK] at d0 HLK HKY
      rw [hTV] at d1 HE HNM
      have HOW := Lib.hid hown
      have hlook := HLK.out (.cells #[.string TK, .string TV] 38)
      obtain ⟨MB, hMB⟩ : ∃ M, w.heap.size = M := ⟨_, rfl⟩
      have HMB := Lib.hid hMB
      have hMlt : MB < wr.heap.size := by rw [← hMB]; exact hown.lt
      have HMlt := Lib.hid hMlt
      rw [hMB] at hlook HOW HBW ⊢
      have HGW := Lib.hid (show GlobA wr from HG.out.below hbw)
      clear hx hc0 hc1 hsay hbw htk hk hv hA hz1 hz2 hTK hTV hown hMB hmj hMlt
      cases A
      · obtain ⟨q, hq⟩ : ∃ q, numM v = q := ⟨_, rfl⟩
        rw [hq] at HNM
        obtain ⟨E, hE⟩ : ∃ E, decide (v = []) = E := ⟨_, rfl⟩
        rw [hE] at HE
        have HVM := Lib.hid (show valM v = (q.1, q.2 || E) by unfold valM; rw [hq, hE])
        clear hq hE
        obtain ⟨q1, q2⟩ := q
        have hst := HE.out
        have HSN := Lib.hid (show MapSays (D.put (.string k) (.agg [.lit (.int .i64 q1), .lit (.bool (q2 || E))])) (vs.take (j + 1)) by
          rw [HTK.out]
          have := says_new (v := v) HS.out HA.out
          rwa [HVM.out] at this)
        have HBX := Lib.hid (show ∀ o1 o2, Below wr.heap.size wr ((wr.alloc o1).alloc o2) from fun o1 o2 => ((Below.refl _ wr).alloc (Nat.le_refl _) _).alloc (by simp) _)
        cases q2 <;> cases E
        all_goals
          go_wp2_with fail
          refine (HNM.out _ (HGW.out.below (HBX.out _ _))).mono ?_
          rintro e w3 ⟨rfl, hb3⟩
          have hC : (Obj.cells #[.string TK, .string TV] 38 (0, 0)) = .cells #[.string TK, .string TV] 38 (0, 0) := rfl
          have hblk : w3.heap[wr.heap.size]? = some (.cells #[.string TK, .string TV] 38 (0, 0)) := (hb3.block _ (by simp; omega)).trans ((Below.heap_alloc _ _ _ (by simp)).trans (heap_alloc_new wr _))
          have k0 := cell_of_row w3 wr.heap.size 0 _ _ _ hblk
          have k1 := cell_of_row w3 wr.heap.size 1 _ _ _ hblk
          simp only [List.getElem?_toArray, List.getElem?_cons_zero, List.getElem?_cons_succ] at k0 k1
          have HB3 := Lib.hid (show Below wr.heap.size wr w3 from (HBX.out _ _).trans (hb3.mono (by simp; omega)))
          have HOW3 := Lib.hid (show w3.ownsMap Tryd.prog 9 valE MB m D from HOW.out.kept (row := none) ⟨HB3.out.os, HB3.out.tape, HB3.out.output, HB3.out.size, fun k hk _ => HB3.out.block k hk⟩ (by simp))
          clear hblk hb3 hC hlook
          go_wp2_with (at_mapUpdate; refine wpList_mapUpdate_own _ rfl _ _ _ 41 rfl 9 89 (Maps.string_keyed Tryd.underlying9) Tryd.underlying41 valE MB m D rfl HOW3.out (by have := HMJ.out; unfold maxLen; omega) _ _ (.string k) rfl rfl HKY.out _ [] (valE_mk _ _) ?_; intro w4 hown4 hgrow4; have HOW4 := Lib.hid hown4; have HGR4 := Lib.hid hgrow4; clear hown4 hgrow4)
        all_goals
          have hmb := HMB.out
          subst hmb
          go_roundg g'
          case rel => exact ⟨j + 1, by simp, by omega, Lib.hid ⟨m + 1, _, HOW4.out, by have := HMJ.out; omega, HSN.out, HBW.out.trans (((HB3.out.mono (by have := HMlt.out; omega)).grown HGR4.out (by have := HB3.out.size; have := HMlt.out; omega) (fun k e => by cases e; exact Nat.le_refl _)))⟩⟩
          case measure => omega
      · have HBX := Lib.hid (show ∀ o1 o2, Below wr.heap.size wr ((wr.alloc o1).alloc o2) from fun o1 o2 => ((Below.refl _ wr).alloc (Nat.le_refl _) _).alloc (by simp) _)
        go_wp2_with fail
        have hmb := HMB.out
        subst hmb
        go_roundg g'
        case rel => exact ⟨j + 1, by simp, by omega, Lib.hid ⟨m, D, (HOW.out.alloc _).alloc _, by have := HMJ.out; omega, by rw [HTK.out]; exact says_old HS.out HA.out, HBW.out.trans ((HBX.out _ _).mono (by have := HMlt.out; omega))⟩⟩
        case measure => omega
    · have hjL : j = L := by omega
      subst hjL
      have htk : vs.take j = vs := List.take_of_length_le (by rw [HL.out]; omega)
      rw [htk] at hsay
      have HE := Lib.hid (And.intro hown (And.intro hsay hbw))
      clear hown hsay hbw htk
      go_wp2_with fail
      go_ret
      exact ⟨_, _, _, rfl, Nat.le_refl _, HE.out.1, HE.out.2.1, HE.out.2.2⟩
/-- What is looked up is what the name stands for. -/
theorem look_env (vs : Vars) (n : B) : ((if vs.any (fun x => x.1 == n) then (envM vs n).1 else 0) = (envM vs n).1) ∧ (((if vs.any (fun x => x.1 == n) then (envM vs n).2 else false) || !vs.any (fun x => x.1 == n)) = (envM vs n).2) := by
  cases h : vs.any (fun x => x.1 == n) with
  | true => simp
  | false => rw [env_none vs n h]; simp
theorem Rws.setM {w w1 : World} {X : Nat} {mm nn ss : Value} {N : List Int} {S : List (B × Nat)} (h : Rws w X vs mm nn ss N S) (hX : X < w.heap.size) (hb : Below w.heap.size w w1) {b m : Nat} {D : DataW Unit} (hbb : w.heap.size ≤ b) (hown : w1.ownsMap Tryd.prog 9 valE b m D) (hs : MapSays D vs) : Rws w1 X vs (.map (some b)) nn ss N S where
  nums := ownsR_same h.nums fun g hg => hb.block g (World.ownsRow.lt h.nums g hg).2
  signs := ownsR_same h.signs fun g hg => hb.block g (World.ownsRow.lt h.signs g hg).2
  ap := h.ap
  map := .inr ⟨b, m, D, rfl, by omega, fun e => by have := (World.ownsRow.lt h.nums b e).2; omega, fun e => by have := (World.ownsRow.lt h.signs b e).2; omega, hown, hs⟩
  i64 := h.i64
theorem map_nil0 (w : World) : (binOp BinOp.eql 41 (.map none) (.map none)).run Tryd.prog w = .ok (.bool true) w := by kernel_rfl
theorem map_nil1 (b : Nat) (w : World) : (binOp BinOp.eql 41 (.map (some b)) (.map none)).run Tryd.prog w = .ok (.bool false) w := by kernel_rfl
set_option maxRecDepth 8000 in
theorem of_set {w : World} {X b : Nat} {vv nn ss : Value} {s : St} (n : B) (hn : n.length ≤ 140737488355328) (h : Rk w X vs vv (.map (some b)) nn ss s) :
    Calls Tryd.prog 39 #[.pointer (some ⟨X, 1, none⟩), .string (tx n)] w fun e w' => e = .returned (.tuple #[.int .i64 (envM vs n).1, .bool (envM vs n).2]) ∧ (∃ mm', Rk w' X vs vv mm' nn ss s) ∧ Below X w w' := by
  obtain ⟨-, -, c2, -, -, -, -⟩ := ar_cell h.blk
  rcases h.rws.map with h0 | ⟨b', m, D, h1, h2, h3, h4, hown, hsay⟩
  · cases h0
  cases h1
  have hlook := look_at hown hsay n hn
  obtain ⟨l1, l2⟩ := look_env vs n
  rw [l1] at hlook
  obtain ⟨A, hA⟩ : ∃ A, vs.any (fun x => x.1 == n) = A := ⟨_, rfl⟩
  rw [hA] at hlook l2
  obtain ⟨Q, hQ⟩ : ∃ Q, (if A = true then (envM vs n).2 else false) = Q := ⟨_, rfl⟩
  rw [hQ] at hlook l2
  have HE := Lib.hid l2
  have HH := Lib.hid (fun o => h.new ((Below.refl _ w).alloc (Nat.le_refl _) o))
  have HB := Lib.hid (fun o => (Below.refl X w).alloc (by have := h.lt; omega) o)
  generalize (envM vs n).1 = z at *
  generalize (envM vs n).2 = y at *
  have hmn := map_nil1 b
  generalize tx n = T at *
  clear h h2 h3 h4 hown hsay l1 l2 hA hQ hn
  cases A <;> cases Q
  all_goals
    go_enter Tryd.func39, Tryd.ntmps39
    go_wp2_with fail
    go_ret2
    exact ⟨ret_two rfl HE.out, ⟨_, HH.out _⟩, HB.out _⟩
set_option maxRecDepth 8000 in
theorem of_nil {w : World} {X : Nat} {vv nn ss : Value} {s : St} (n : B) (hn : n.length ≤ 140737488355328) (h : Rk w X vs vv (.map none) nn ss s) (hv : VarsAt w vv vs) (hg : GlobA w) :
    Calls Tryd.prog 39 #[.pointer (some ⟨X, 1, none⟩), .string (tx n)] w fun e w' => e = .returned (.tuple #[.int .i64 (envM vs n).1, .bool (envM vs n).2]) ∧ (∃ mm', Rk w' X vs vv mm' nn ss s) ∧ Below X w w' := by
  obtain ⟨-, c1, c2, -, -, -, hfz⟩ := ar_cell h.blk
  have HV := Lib.hid (values_any vv w hv hg)
  have HH := Lib.hid h
  obtain ⟨l1, l2⟩ := look_env vs n
  have HLK := Lib.hid (fun (W : World) (b m : Nat) (D : DataW Unit) (h1 : W.ownsMap Tryd.prog 9 valE b m D) (h2 : MapSays D vs) => look_at h1 h2 n hn)
  rw [l1] at HLK
  obtain ⟨A, hA⟩ : ∃ A, vs.any (fun x => x.1 == n) = A := ⟨_, rfl⟩
  rw [hA] at HLK l2
  obtain ⟨Q, hQ⟩ : ∃ Q, (if A = true then (envM vs n).2 else false) = Q := ⟨_, rfl⟩
  rw [hQ] at HLK l2
  have HE := Lib.hid l2
  have hlt := h.lt
  generalize (envM vs n).1 = z at *
  generalize (envM vs n).2 = y at *
  have hmn := map_nil0
  generalize tx n = T at *
  clear h l1 l2 hA hQ hn hv hg hfz
  cases A <;> cases Q
  all_goals
    go_enter Tryd.func39, Tryd.ntmps39
    go_wp2_with (go_at_call 59; (refine HV.out.mono ?_); rintro e w1 ⟨b, m, D, rfl, hbb, hown, hsay, hb1⟩; have HK := Lib.hid (show Rk (w1.setCell ⟨X, 2, none⟩ (.map (some b))) X vs vv (.map (some b)) nn ss s from ⟨ar_set2 (mm := .map none) ((hb1.block X hlt).trans HH.out.blk) _, Rws.setX (HH.out.rws.setM hlt hb1 hbb hown hsay)⟩); have hX1 := (ar_cell (mm := .map none) ((hb1.block X hlt).trans HH.out.blk)).2.2.1; have hf1 := (ar_cell (mm := .map none) ((hb1.block X hlt).trans HH.out.blk)).2.2.2.2.2.2 2; have hlook := HLK.out _ _ _ _ (hown.setCell (a := ⟨X, 2, none⟩) (show b ≠ X by omega) (.map (some b))) hsay; have HB1 := Lib.hid (ar_below (X := X) (o := 2) (u := .map (some b)) (hb1.mono (by omega))); clear hown hsay hb1 hbb)
    go_ret2
    exact ⟨ret_two rfl HE.out, ⟨_, HK.out.new ((Below.refl _ _).alloc (Nat.le_refl _) _)⟩, HB1.out.alloc (by have := HK.out.lt; omega) _⟩
theorem of_any {w : World} {X : Nat} {vv mm nn ss : Value} {s : St} (n : B) (hn : n.length ≤ 140737488355328) (h : Rk w X vs vv mm nn ss s) (hv : VarsAt w vv vs) (hg : GlobA w) :
    Calls Tryd.prog 39 #[.pointer (some ⟨X, 1, none⟩), .string (tx n)] w fun e w' => e = .returned (.tuple #[.int .i64 (envM vs n).1, .bool (envM vs n).2]) ∧ (∃ mm', Rk w' X vs vv mm' nn ss s) ∧ Below X w w' := by
  rcases h.rws.map with rfl | ⟨b', m, D, rfl, -⟩
  · exact of_nil n hn h hv hg
  · exact of_set n hn h
end
end Go.Proofs.YtlgbfhjbfolibaaDoor
