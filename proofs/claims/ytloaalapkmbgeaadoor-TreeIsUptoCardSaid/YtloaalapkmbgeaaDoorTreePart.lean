/-
  Proved: contracts of tree's isBare, isOne, isOther, reckoning and letters. Conditions: texts of at most 2^20 bytes.
-/
import Derived.Test.YtloaalapkmbgeaaDoorTreeStr
import Derived.Test.YtloaalapkmbgeaaDoorTreeMem
namespace Go.Proofs.YtloaalapkmbgeaaDoor
open Go Go.RowKit GlyphMath LexMath TreeMath

theorem below_one (w : World) (o : Obj) : Below w.heap.size w (w.alloc o) := (Below.refl _ _).alloc (Nat.le_refl _) _
theorem below_two (w : World) (o p : Obj) : Below w.heap.size w ((w.alloc o).alloc p) := (below_one w o).alloc (by rw [World.size_alloc]; omega) _
/-- A part's variable. -/
def PC (w : World) (b : Nat) (kd : Int) (s o : ByteArray) (u : Value) (q : Bool) : Prop :=
  w.cell? ⟨b, 0, none⟩ = some (.int .i64 kd) ∧ w.cell? ⟨b, 1, none⟩ = some (.string s) ∧ w.cell? ⟨b, 2, none⟩ = some (.string o) ∧ w.cell? ⟨b, 3, none⟩ = some u ∧ w.cell? ⟨b, 4, none⟩ = some (.bool q)
theorem PC.new (w : World) (kd : Int) (s o : ByteArray) (u : Value) (q : Bool) (t : TypeId) : PC (w.alloc (.cells #[.int .i64 kd, .string s, .string o, u, .bool q] t)) w.heap.size kd s o u q := by
  have h := heap_alloc_new w (.cells #[.int .i64 kd, .string s, .string o, u, .bool q] t)
  exact ⟨cell_plain h 0, cell_plain h 1, cell_plain h 2, cell_plain h 3, cell_plain h 4⟩
theorem PC.below {w w' : World} {b : Nat} {kd : Int} {s o : ByteArray} {u : Value} {q : Bool} (h : PC w b kd s o u q) (hb : Below w.heap.size w w') : PC w' b kd s o u q := by
  have lt : ∀ {a : Addr} {v : Value}, w.cell? a = some v → a.block < w.heap.size := fun h => World.block_lt_of_cell? w _ h
  obtain ⟨h0, h1, h2, h3, h4⟩ := h
  exact ⟨(hb.cell (lt h0)).trans h0, (hb.cell (lt h1)).trans h1, (hb.cell (lt h2)).trans h2, (hb.cell (lt h3)).trans h3, (hb.cell (lt h4)).trans h4⟩
theorem int_ne {a b : Int} (h : a ≠ b) : (a == b) = false := beq_eq_false_iff_ne.2 h

set_option maxRecDepth 100000 in
theorem isBare_any (p : Pt) (u : Value) (w : World) :
    Calls Tryd.prog 34 #[partV p u] w fun e w' => e = .returned (.bool (bareT p)) ∧ Below w.heap.size w w' := by
  obtain ⟨kd, tx, op, wd, q⟩ := p
  have HB := Lib.hid (fun o => below_one w o)
  by_cases h : kd = 1
  · subst h
    have HT := Lib.hid (show bareT ⟨1, tx, op, wd, q⟩ = !q from rfl)
    rw [HT.out]
    unfold partV txt
    go_enter Tryd.func34, Tryd.ntmps34
    go_wp2_with fail
    go_ret
    exact ⟨rfl, HB.out _⟩
  · have h1 := int_ne h
    have HT := Lib.hid (show bareT ⟨kd, tx, op, wd, q⟩ = false by unfold bareT; simp only [h1, Bool.false_and])
    rw [HT.out]
    clear h
    unfold partV txt
    go_enter Tryd.func34, Tryd.ntmps34
    go_wp2_with fail
    go_ret
    exact ⟨rfl, HB.out _⟩

set_option maxRecDepth 100000 in
theorem isOne_any (p r : Pt) (u v : Value) (w : World) :
    Calls Tryd.prog 36 #[partV p u, partV r v] w fun e w' => e = .returned (.bool (oneT p r)) ∧ Below w.heap.size w w' := by
  obtain ⟨kd, tx, op, wd, q⟩ := p
  obtain ⟨kd2, tx2, op2, wd2, q2⟩ := r
  have HB := Lib.hid (fun o p => below_two w o p)
  by_cases h : kd = 1
  · subst h
    by_cases h2 : kd2 = 1
    · subst h2
      have HT := Lib.hid (show oneT ⟨1, tx, op, wd, q⟩ ⟨1, tx2, op2, wd2, q2⟩ = (q == q2) from rfl)
      rw [HT.out]
      unfold partV txt
      go_enter Tryd.func36, Tryd.ntmps36
      go_wp2_with fail
      go_ret
      exact ⟨rfl, HB.out _ _⟩
    · have h1 := int_ne h2
      have HT := Lib.hid (show oneT ⟨1, tx, op, wd, q⟩ ⟨kd2, tx2, op2, wd2, q2⟩ = false by unfold oneT; simp only [h1, Bool.false_and, Bool.and_false])
      rw [HT.out]
      clear h2
      unfold partV txt
      go_enter Tryd.func36, Tryd.ntmps36
      go_wp2_with fail
      go_ret
      exact ⟨rfl, HB.out _ _⟩
  · have h1 := int_ne h
    have HT := Lib.hid (show oneT ⟨kd, tx, op, wd, q⟩ ⟨kd2, tx2, op2, wd2, q2⟩ = false by unfold oneT; simp only [h1, Bool.false_and])
    rw [HT.out]
    clear h
    unfold partV txt
    go_enter Tryd.func36, Tryd.ntmps36
    go_wp2_with fail
    go_ret
    exact ⟨rfl, HB.out _ _⟩

theorem isOther_any (l : List UInt8) (w : World) :
    Calls Tryd.prog 81 #[txt l] w fun e w' => e = .returned (.bool (otherT l)) ∧ w = w' := by
  by_cases h : ∃ c, l = [c]
  · obtain ⟨c, rfl⟩ := h
    have HI := Lib.hid (fun W => Tryd.strings_Contains_one ⟨#[49, 50, 51, 52, 53, 54, 55, 56, 57, 64, 35, 63]⟩ c W)
    have HT := Lib.hid (show decide (0 ≤ Lib.indexByte (⟨#[49, 50, 51, 52, 53, 54, 55, 56, 57, 64, 35, 63]⟩ : ByteArray).data.toList c) = otherT [c] from indexByte_in _ _)
    rw [HT.out] at HI
    show Calls _ _ #[.string ⟨#[c]⟩] _ _
    have hsz : (((⟨#[c]⟩ : ByteArray).size : Int) == 1) = true := rfl
    obtain ⟨s, hs⟩ : ∃ s : ByteArray, (⟨#[c]⟩ : ByteArray) = s := ⟨_, rfl⟩
    rw [hs] at HI hsz ⊢
    clear hs
    go_enter Tryd.func81, Tryd.ntmps81
    go_wp2_with (go_at_call 91; refine (HI.out _).mono ?_; rintro e w' ⟨rfl, rfl⟩)
    go_ret
    exact ⟨rfl, rfl⟩
  · have hl : ¬ l.length = 1 := fun e => h (by
      match l, e with
      | [c], _ => exact ⟨c, rfl⟩)
    have HT := Lib.hid (show otherT l = false by
      match l, h with
      | [], _ => rfl
      | [c], h => exact absurd ⟨c, rfl⟩ h
      | _ :: _ :: _, _ => rfl)
    rw [HT.out]
    have hsz : (((T l).size : Int) == 1) = false := int_ne (by rw [T_size]; omega)
    show Calls _ _ #[.string (T l)] _ _
    generalize T l = s at hsz ⊢
    clear h hl HT
    go_enter Tryd.func81, Tryd.ntmps81
    go_wp2_with fail
    go_ret
    exact ⟨rfl, rfl⟩

set_option maxRecDepth 100000 in
theorem letters_any (p : Pt) (u : Value) (d : Nat) (w : World) (hs : p.text.length ≤ 1048576) :
    Calls Tryd.prog 64 #[partV p u, .int .i64 (d : Int)] w fun e w' => e = .returned (.bool (litT (decide (0 < d)) p)) ∧ Below w.heap.size w w' := by
  obtain ⟨kd, tx, op, wd, q⟩ := p
  have HV := Lib.hid (fun W => valid_any (T tx) W)
  have HW := Lib.hid (fun W => contains_any (T tx) ⟨#[39, 34, 36, 92, 125]⟩ (by decide) (by decide) (by decide) hs W)
  have HM := Lib.hid (fun W => contains_any (T tx) ⟨#[32, 9, 10, 59, 38, 124, 40, 41, 60, 62, 39, 34, 36, 92]⟩ (by decide) (by decide) (by decide) hs W)
  have HB := Lib.hid (fun o => below_one w o)
  obtain ⟨R, hR⟩ : ∃ R, litT (decide (0 < d)) ⟨kd, tx, op, wd, q⟩ = R := ⟨_, rfl⟩
  have HL := Lib.hid (show R = (isText (T tx) && (q || (!tx.isEmpty && !anyIn tx (if decide (0 < d) then metaW else metaB)))) from by rw [← hR]; rfl)
  rw [hR]
  clear hR
  have hemp : (T tx).toList.isEmpty = tx.isEmpty := by rw [Lib.toList_data]
  show Calls _ _ #[.agg #[.int .i64 kd, .string (T tx), txt op, u, .bool q], _] _ _
  have HA := Lib.hid (show anyIn (T tx).data.toList (⟨#[39, 34, 36, 92, 125]⟩ : ByteArray).data.toList = anyIn tx metaW ∧ anyIn (T tx).data.toList (⟨#[32, 9, 10, 59, 38, 124, 40, 41, 60, 62, 39, 34, 36, 92]⟩ : ByteArray).data.toList = anyIn tx metaB from ⟨rfl, rfl⟩)
  rw [HA.out.1] at HW
  rw [HA.out.2] at HM
  obtain ⟨A, hA⟩ : ∃ A, isText (T tx) = A := ⟨_, rfl⟩
  obtain ⟨E, hE⟩ : ∃ E, tx.isEmpty = E := ⟨_, rfl⟩
  rw [hA] at HV HL
  rw [hE] at hemp HL
  generalize place (T tx) = Q at HV
  clear HA hs hA hE
  generalize T tx = s at HV HW HM hemp ⊢
  unfold txt
  cases A with
  | false =>
    have HR := Lib.hid (show R = false by rw [HL.out]; rfl)
    rw [HR.out]
    clear HR HL
    go_enter Tryd.func64, Tryd.ntmps64
    go_wp2_with (go_at_call 79; refine (HV.out _).mono ?_; rintro e w1 ⟨rfl, hb⟩; have HB1 := Lib.hid ((HB.out _).trans (hb.mono (HB.out _).size)); clear hb)
    go_ret
    exact ⟨rfl, HB1.out⟩
  | true =>
    cases q with
    | true =>
      have HR := Lib.hid (show R = true by rw [HL.out]; rfl)
      rw [HR.out]
      clear HR HL
      go_enter Tryd.func64, Tryd.ntmps64
      go_wp2_with (go_at_call 79; refine (HV.out _).mono ?_; rintro e w1 ⟨rfl, hb⟩; obtain ⟨c0, c1, c2, c3, c4⟩ := (PC.new w kd s _ u _ 30).below hb; have HB1 := Lib.hid ((HB.out _).trans (hb.mono (HB.out _).size)); clear hb)
      go_ret
      exact ⟨rfl, HB1.out⟩
    | false =>
      by_cases hd : 0 < d
      · have hdi : (0 : Int) < (d : Int) := by omega
        cases E with
        | true =>
          have HR := Lib.hid (show R = false by rw [HL.out]; rfl)
          rw [HR.out]
          clear HR HL hd
          go_enter Tryd.func64, Tryd.ntmps64
          go_wp2_with (go_at_call 79; refine (HV.out _).mono ?_; rintro e w1 ⟨rfl, hb⟩; obtain ⟨c0, c1, c2, c3, c4⟩ := (PC.new w kd s _ u _ 30).below hb; have HB1 := Lib.hid ((HB.out _).trans (hb.mono (HB.out _).size)); clear hb)
          go_ret
          exact ⟨rfl, HB1.out⟩
        | false =>
          have HR := Lib.hid (show R = !anyIn tx metaW by rw [HL.out, decide_eq_true hd]; rfl)
          rw [HR.out]
          generalize anyIn tx metaW = B at HW ⊢
          clear HR HL hd
          go_enter Tryd.func64, Tryd.ntmps64
          go_wp2_with (first
            | (go_at_call 79; refine (HV.out _).mono ?_; rintro e w1 ⟨rfl, hb⟩; obtain ⟨c0, c1, c2, c3, c4⟩ := (PC.new w kd s _ u _ 30).below hb; have HB1 := Lib.hid ((HB.out _).trans (hb.mono (HB.out _).size)); clear hb)
            | (go_at_call 80; refine (HW.out _).mono ?_; rintro e w2 ⟨rfl, hb⟩; have HB2 := Lib.hid (HB1.out.trans (hb.mono HB1.out.size)); clear hb))
          go_ret
          exact ⟨rfl, HB2.out⟩
      · have hdi : ¬ (0 : Int) < (d : Int) := by omega
        cases E with
        | true =>
          have HR := Lib.hid (show R = false by rw [HL.out]; rfl)
          rw [HR.out]
          clear HR HL hd
          go_enter Tryd.func64, Tryd.ntmps64
          go_wp2_with (go_at_call 79; refine (HV.out _).mono ?_; rintro e w1 ⟨rfl, hb⟩; obtain ⟨c0, c1, c2, c3, c4⟩ := (PC.new w kd s _ u _ 30).below hb; have HB1 := Lib.hid ((HB.out _).trans (hb.mono (HB.out _).size)); clear hb)
          go_ret
          exact ⟨rfl, HB1.out⟩
        | false =>
          have HR := Lib.hid (show R = !anyIn tx metaB by rw [HL.out, decide_eq_false hd]; rfl)
          rw [HR.out]
          generalize anyIn tx metaB = B at HM ⊢
          clear HR HL hd
          go_enter Tryd.func64, Tryd.ntmps64
          go_wp2_with (first
            | (go_at_call 79; refine (HV.out _).mono ?_; rintro e w1 ⟨rfl, hb⟩; obtain ⟨c0, c1, c2, c3, c4⟩ := (PC.new w kd s _ u _ 30).below hb; have HB1 := Lib.hid ((HB.out _).trans (hb.mono (HB.out _).size)); clear hb)
            | (go_at_call 80; refine (HM.out _).mono ?_; rintro e w2 ⟨rfl, hb⟩; have HB2 := Lib.hid (HB1.out.trans (hb.mono HB1.out.size)); clear hb))
          go_ret
          exact ⟨rfl, HB2.out⟩
end Go.Proofs.YtloaalapkmbgeaaDoor
