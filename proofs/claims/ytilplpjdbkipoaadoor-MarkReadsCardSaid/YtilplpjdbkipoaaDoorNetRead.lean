/-
  Proved: Reader.Num and Reader.Text, of a Reader and of nil, answer and leave what the plain functions numV, textV and their kin say. Conditions: at most 2^47 bytes are left; the library's table and its two sentinel errors read as laid.
-/
import Derived.Test.YtilplpjdbkipoaaDoorNetGet
namespace Go.Proofs.YtilplpjdbkipoaaDoor.NetP
open Go Go.Shelf Go.RowKit NetMath NetMem

/-- WHAT firstNum ANSWERS. -/
theorem first_any (v : Value) (l : List UInt8) (hl : l.length ≤ 140737488355328) (w : World) (h : Row w v l) (hg : Glob w) :
    Calls Tryd.prog 57 #[v] w fun e w' => e = .returned (.tuple #[.int .i64 (numV l), .int .i64 (firstK l)]) ∧ Below w.heap.size w w' := by
  obtain ⟨p, cap, rfl, -⟩ := id h
  by_cases hneg : Lib.indexByte (l.take 21) 59 < 0
  · refine (first_none p cap l w h hneg).mono fun e w' ⟨he, hw⟩ => ?_
    subst hw
    have e1 : firstN l = none := by unfold firstN; simp only; rw [if_pos hneg]
    unfold numV firstK
    rw [e1]
    exact ⟨he, Below.refl _ _⟩
  · obtain ⟨e, he⟩ : ∃ e : Nat, Lib.indexByte (l.take 21) 59 = e := ⟨(Lib.indexByte (l.take 21) 59).toNat, by omega⟩
    have e0 : (Lib.indexByte (l.take 21) 59).toNat = e := by omega
    cases hp : Lib.parseIntB 64 (l.take e) with
    | ok n =>
      refine (first_ok p cap l hl w h hg e he n hp).mono fun x w' ⟨hx, hb⟩ => ⟨?_, hb⟩
      rw [hx]
      have e1 : firstN l = if numB n = l.take (e + 1) then some (n, e + 1) else none := by
        unfold firstN
        simp only
        rw [if_neg hneg, e0, hp]
      unfold numV firstK
      rw [e1]
      by_cases hq : numB n = l.take (e + 1)
      · simp [hq]
      · simp [hq]
    | _ =>
      refine (first_bad p cap l hl w h hg e he (fun n hn => by rw [hp] at hn; cases hn)).mono fun x w' ⟨hx, hb⟩ => ⟨?_, hb⟩
      have e1 : firstN l = none := by
        unfold firstN
        simp only
        rw [if_neg hneg, e0, hp]
      unfold numV firstK
      rw [hx, e1]
      rfl

/-- The world is as it was but for the Reader's own block, and new blocks. -/
def Kept (r : Nat) (w w' : World) : Prop := w.grownBy w' (some r)

theorem Kept.of_below {r : Nat} {w w' : World} (h : Below w.heap.size w w') : Kept r w w' := ⟨h.os, h.tape, h.output, h.size, fun k hk _ => h.block k hk⟩

theorem Kept.below {r B : Nat} {w w' : World} (h : Kept r w w') (hB : B ≤ w.heap.size) (hr : B ≤ r) : Below B w w' := (Below.refl B w).grown h hB (fun k hk => by cases hk; exact hr)

/-- The Reader's slice lies in another block than the Reader. -/
theorem Row.far {w : World} {r : Nat} {T : TypeId} {p : Option Addr} {n k : Nat} (hr : w.heap[r]? = some (.cells #[.slice p n k] T (0, 0))) {b o : Nat} {c : Int} (hc : w.cell? ⟨b, o, none⟩ = some (.int .u8 c)) : b ≠ r := by
  rintro rfl
  simp only [World.cell?, hr] at hc
  cases o with
  | zero => simp at hc
  | succ o => simp at hc

theorem Row.kept {w w' : World} {r : Nat} {T : TypeId} {p : Option Addr} {n k : Nat} (hr : w.heap[r]? = some (.cells #[.slice p n k] T (0, 0))) (hk : Kept r w w') {v : Value} {l : List UInt8} (h : Row w v l) : Row w' v l :=
  h.keep fun b o c hc => by
    have hne := Row.far hr hc
    exact hk.cell hc (by simpa using hne)

theorem Row.drop {w : World} {p : Option Addr} {n cap : Nat} {l : List UInt8} (h : Row w (.slice p n cap) l) (k : Nat) (hk : k ≤ l.length) :
    Row w (.slice (if cap = k then p else p.map (·.add k)) (n - k) (cap - k)) (l.drop k) := by
  obtain ⟨rfl, hlc, hcm, hc⟩ := Row.nums h
  refine ⟨_, cap - k, by rw [List.length_drop], by rw [List.length_drop]; omega, by omega, fun h0 => ?_⟩
  obtain ⟨b, o, hp, hcc⟩ := hc (by omega)
  refine ⟨b, o + k, ?_, fun i hi => ?_⟩
  · rw [if_neg (by omega), hp, Option.map_some, Lib.add_plain]
  · rw [List.length_drop] at hi
    have := hcc (k + i) (by omega)
    rw [List.getElem_drop, Nat.add_assoc]
    exact this

theorem Rd.cell {T : TypeId} {w : World} {r : Nat} {x : Value} (h : w.heap[r]? = some (.cells #[x] T (0, 0))) : w.cell? ⟨r, 0, none⟩ = some x ∧ w.frozen? ⟨r, 0, none⟩ = false ∧ r < w.heap.size :=
  ⟨by simp [World.cell?, h], by simp [World.frozen?, h], (Array.getElem?_eq_some_iff.1 h).1⟩

/-- A store into a Reader's field. -/
theorem Rd.set {T : TypeId} {w : World} {r : Nat} {x y : Value} (h : w.heap[r]? = some (.cells #[x] T (0, 0))) : (w.setCell ⟨r, 0, none⟩ y).heap[r]? = some (.cells #[y] T (0, 0)) := by
  simp [World.setCell, Array.getElem?_modify, h]

theorem Kept.set (w : World) (r : Nat) (y : Value) : Kept r w (w.setCell ⟨r, 0, none⟩ y) :=
  ⟨rfl, rfl, rfl, by simp [World.setCell], fun k _ hk => Below.heap_setCell _ _ _ _ (fun e => hk (by rw [e]))⟩

theorem Kept.trans {r : Nat} {a b c : World} (h : Kept r a b) (k : Kept r b c) : Kept r a c :=
  ⟨k.os.trans h.os, k.tape.trans h.tape, k.output.trans h.output, Nat.le_trans h.size k.size, fun i hi hr => (k.block i (Nat.lt_of_lt_of_le hi h.size) hr).trans (h.block i hi hr)⟩

set_option maxHeartbeats 1000000 in
set_option maxRecDepth 100000 in
theorem rnum_any (r : Nat) (l : List UInt8) (hl : l.length ≤ 140737488355328) (w : World) (h : Rd 86 w r l) (hg : Glob w) :
    Calls Tryd.prog 45 #[.pointer (some ⟨r, 0, none⟩)] w fun e w' => e = .returned (.tuple #[.int .i64 (numV l), .bool (numOk l)]) ∧ Rd 86 w' r (numRest l) ∧ Kept r w w' := by
  obtain ⟨v, hr, hv⟩ := h
  obtain ⟨p, cap, hv0, -⟩ := id hv
  subst hv0
  obtain ⟨hcell, hfree, hlt⟩ := Rd.cell hr
  obtain ⟨hlc, hcm⟩ := Row.le w hv
  have hf := first_any _ l hl w hv hg
  have HV := Lib.hid hv
  have HR := Lib.hid hr
  clear hv hr hg
  cases hx : firstN l with
  | none =>
    have e1 : numV l = 0 := by unfold numV; rw [hx]
    have e2 : firstK l = 0 := by unfold firstK; rw [hx]
    have e3 : numOk l = false := by unfold numOk; rw [hx]; rfl
    have e4 : numRest l = l := by unfold numRest; rw [hx]
    rw [e1, e2] at hf
    rw [e1, e3, e4]
    clear e1 e2 e3 e4 hx
    go_enter Tryd.func45, Tryd.ntmps45
    go_wp2_with fail
    refine hf.mono ?_
    rintro e w1 ⟨rfl, hb⟩
    clear hf
    have HB := Lib.hid hb
    clear hb
    go_wp2_with fail
    go_ret2
    exact ⟨rfl, ⟨_, (HB.out.block r hlt).trans HR.out, HV.out.below HB.out⟩, Kept.of_below HB.out⟩
  | some x =>
    obtain ⟨n, k⟩ := x
    obtain ⟨-, ht, hk, hkl⟩ := firstN_prefix hx
    have e1 : numV l = n := by unfold numV; rw [hx]
    have e2 : firstK l = k := by unfold firstK; rw [hx]
    have e3 : numOk l = true := by unfold numOk; rw [hx]; rfl
    have e4 : numRest l = l.drop k := by unfold numRest; rw [hx]
    rw [e1, e2] at hf
    rw [e1, e3, e4]
    have hk0 : 0 < k := by rw [hk]; simp [numB]
    clear e1 e2 e3 e4 hx ht hk
    obtain ⟨b, o, hp, -⟩ := (Row.nums HV.out).2.2.2 (by omega)
    subst hp
    go_enter Tryd.func45, Tryd.ntmps45
    go_wp2_with fail
    refine hf.mono ?_
    rintro e w1 ⟨rfl, hb⟩
    clear hf
    have hc1 : w1.cell? ⟨r, 0, none⟩ = some (.slice (some ⟨b, o, none⟩) l.length cap) := by rw [hb.cell (p := ⟨r, 0, none⟩) hlt]; exact hcell
    have hf1 : w1.frozen? ⟨r, 0, none⟩ = false := by rw [hb.frozen (p := ⟨r, 0, none⟩) hlt]; exact hfree
    have HB := Lib.hid hb
    clear hb hcell hfree
    have h0 : ((k : Int) == 0) = false := by simp; omega
    have HR1 := Lib.hid ((HB.out.block r hlt).trans HR.out)
    have HD := Lib.hid (Row.drop (HV.out.below HB.out) k hkl)
    have HK := Lib.hid (Kept.of_below (r := r) HB.out)
    go_wp2_with fail
    all_goals
      go_ret2
      refine ⟨rfl, ⟨_, Rd.set HR1.out, ?_⟩, HK.out.trans (Kept.set _ _ _)⟩
      have hd := HD.out
      first
        | rw [if_pos ‹cap = k›, show cap - k = 0 by omega] at hd
        | rw [if_neg ‹¬cap = k›, Option.map_some, Lib.add_plain] at hd
      exact Row.kept HR1.out (Kept.set _ _ _) hd

/-- Of nil. -/
theorem rnum_nil (w : World) :
    Calls Tryd.prog 45 #[.pointer none] w fun e w' => e = .returned (.tuple #[.int .i64 0, .bool false]) ∧ w = w' := by
  go_enter Tryd.func45, Tryd.ntmps45
  go_wp2
  go_ret2
  exact ⟨rfl, rfl⟩
theorem rtext_nil (w : World) :
    Calls Tryd.prog 46 #[.pointer none] w fun e w' => e = .returned (.tuple #[.string ⟨#[]⟩, .bool false]) ∧ w = w' := by
  go_enter Tryd.func46, Tryd.ntmps46
  go_wp2
  go_ret2
  exact ⟨rfl, rfl⟩

set_option maxHeartbeats 1000000 in
set_option maxRecDepth 100000 in
/-- Text, where no Num comes next. -/
theorem rtext_none (r : Nat) (l : List UInt8) (hl : l.length ≤ 140737488355328) (w : World) (h : Rd 86 w r l) (hg : Glob w) (hx : firstN l = none) :
    Calls Tryd.prog 46 #[.pointer (some ⟨r, 0, none⟩)] w fun e w' => e = .returned (.tuple #[.string ⟨#[]⟩, .bool false]) ∧ Rd 86 w' r l ∧ Kept r w w' := by
  obtain ⟨v, hr, hv⟩ := h
  obtain ⟨p, cap, hv0, -⟩ := id hv
  subst hv0
  obtain ⟨hcell, hfree, hlt⟩ := Rd.cell hr
  obtain ⟨hlc, hcm⟩ := Row.le w hv
  have hf := first_any _ l hl w hv hg
  have HV := Lib.hid hv
  have HR := Lib.hid hr
  have e1 : numV l = 0 := by unfold numV; rw [hx]
  have e2 : firstK l = 0 := by unfold firstK; rw [hx]
  rw [e1, e2] at hf
  clear hv hr hg e1 e2 hx
  go_enter Tryd.func46, Tryd.ntmps46
  go_wp2_with fail
  refine hf.mono ?_
  rintro e w1 ⟨rfl, hb⟩
  clear hf
  have hc1 : w1.cell? ⟨r, 0, none⟩ = some (.slice p l.length cap) := by rw [hb.cell (p := ⟨r, 0, none⟩) hlt]; exact hcell
  have HB := Lib.hid hb
  clear hb hcell hfree
  go_wp2_with fail
  go_ret2
  exact ⟨rfl, ⟨_, (HB.out.block r hlt).trans HR.out, HV.out.below HB.out⟩, Kept.of_below HB.out⟩

set_option maxHeartbeats 1000000 in
set_option maxRecDepth 100000 in
/-- Text, where a Num comes next that is no length of what is behind it. -/
theorem rtext_long (r : Nat) (l : List UInt8) (hl : l.length ≤ 140737488355328) (w : World) (h : Rd 86 w r l) (hg : Glob w) (n : Int) (k : Nat) (hx : firstN l = some (n, k)) (hn : n < 0 ∨ ((l.length - k : Nat) : Int) < n) :
    Calls Tryd.prog 46 #[.pointer (some ⟨r, 0, none⟩)] w fun e w' => e = .returned (.tuple #[.string ⟨#[]⟩, .bool false]) ∧ Rd 86 w' r l ∧ Kept r w w' := by
  obtain ⟨v, hr, hv⟩ := h
  obtain ⟨p, cap, hv0, -⟩ := id hv
  subst hv0
  obtain ⟨hcell, hfree, hlt⟩ := Rd.cell hr
  obtain ⟨hlc, hcm⟩ := Row.le w hv
  have hf := first_any _ l hl w hv hg
  have HV := Lib.hid hv
  have HR := Lib.hid hr
  obtain ⟨-, -, hk, hkl⟩ := firstN_prefix hx
  have e1 : numV l = n := by unfold numV; rw [hx]
  have e2 : firstK l = k := by unfold firstK; rw [hx]
  have hk0 : 0 < k := by rw [hk]; simp [numB]
  rw [e1, e2] at hf
  clear hv hr hg e1 e2 hx hk
  obtain ⟨b, o, hp, -⟩ := (Row.nums HV.out).2.2.2 (by omega)
  subst hp
  have h0 : ((k : Int) == 0) = false := by simp; omega
  have hcast : ((l.length - k : Nat) : Int) = (l.length : Int) - (k : Int) := by omega
  by_cases hneg : n < 0
  · clear hn hcast
    go_enter Tryd.func46, Tryd.ntmps46
    go_wp2_with fail
    refine hf.mono ?_
    rintro e w1 ⟨rfl, hb⟩
    clear hf
    have hc1 : w1.cell? ⟨r, 0, none⟩ = some (.slice (some ⟨b, o, none⟩) l.length cap) := by rw [hb.cell (p := ⟨r, 0, none⟩) hlt]; exact hcell
    have HB := Lib.hid hb
    clear hb hcell hfree
    go_wp2_with fail
    all_goals
      go_ret2
      exact ⟨rfl, ⟨_, (HB.out.block r hlt).trans HR.out, HV.out.below HB.out⟩, Kept.of_below HB.out⟩
  · have hlong : ((l.length - k : Nat) : Int) < n := by omega
    have hlong2 : (l.length : Int) - (k : Int) < n := by omega
    have hpos : 0 ≤ n := by omega
    clear hn hneg hcast
    go_enter Tryd.func46, Tryd.ntmps46
    go_wp2_with fail
    refine hf.mono ?_
    rintro e w1 ⟨rfl, hb⟩
    clear hf
    have hc1 : w1.cell? ⟨r, 0, none⟩ = some (.slice (some ⟨b, o, none⟩) l.length cap) := by rw [hb.cell (p := ⟨r, 0, none⟩) hlt]; exact hcell
    have HB := Lib.hid hb
    clear hb hcell hfree
    go_wp2_with fail
    all_goals
      go_ret2
      exact ⟨rfl, ⟨_, (HB.out.block r hlt).trans HR.out, HV.out.below HB.out⟩, Kept.of_below HB.out⟩
end Go.Proofs.YtilplpjdbkipoaaDoor.NetP
