/-
  Proved: Reader.Text answers and leaves what the plain functions textV, textOk, textRest say. Conditions: at most 2^47 bytes are left; the library's table and its two sentinel errors read as laid.
-/
import Derived.Test.YtilplpjdbkipoaaDoorNetRead
namespace Go.Proofs.YtilplpjdbkipoaaDoor.NetP
open Go Go.Shelf Go.RowKit NetMath NetMem

set_option maxHeartbeats 2000000 in
set_option maxRecDepth 100000 in
/-- Text, where one comes next. -/
theorem rtext_ok (r : Nat) (l : List UInt8) (hl : l.length ≤ 140737488355328) (w : World) (h : Rd 86 w r l) (hg : Glob w) (m k : Nat) (hx : firstN l = some ((m : Int), k)) (hm : m ≤ l.length - k) :
    Calls Tryd.prog 46 #[.pointer (some ⟨r, 0, none⟩)] w fun e w' => e = .returned (.tuple #[.string ⟨((l.drop k).take m).toArray⟩, .bool true]) ∧ Rd 86 w' r ((l.drop k).drop m) ∧ Kept r w w' := by
  obtain ⟨v, hr, hv⟩ := h
  obtain ⟨p, cap, hv0, -⟩ := id hv
  subst hv0
  obtain ⟨hcell, hfree, hlt⟩ := Rd.cell hr
  obtain ⟨hlc, hcm⟩ := Row.le w hv
  have hf := first_any _ l hl w hv hg
  have HV := Lib.hid hv
  have HR := Lib.hid hr
  obtain ⟨-, -, hk, hkl⟩ := firstN_prefix hx
  have e1 : numV l = (m : Int) := by unfold numV; rw [hx]
  have e2 : firstK l = k := by unfold firstK; rw [hx]
  have hk0 : 0 < k := by rw [hk]; simp [numB]
  rw [e1, e2] at hf
  clear hv hr hg e1 e2 hx hk
  obtain ⟨b, o, hp, -⟩ := (Row.nums HV.out).2.2.2 (by omega)
  subst hp
  have h0 : ((k : Int) == 0) = false := by simp; omega
  have hnn : ¬ ((m : Int) < 0) := by omega
  have hlong : ¬ (((l.length - k : Nat) : Int) < (m : Int)) := by omega
  have hlong2 : ¬ ((l.length : Int) - (k : Int) < (m : Int)) := by omega
  have hmc : m ≤ cap - k := by omega
  have hlen : (l.drop k).length = l.length - k := List.length_drop
  have HL := Lib.hid hlen
  clear hlen
  by_cases hck : cap = k
  · subst hck
    have hl2 : l.length = cap := by omega
    have hm0 : m = 0 := by omega
    subst hm0
    have hd0 : l.drop cap = [] := List.drop_eq_nil_of_le (by omega)
    rw [hd0]
    have HL2 := Lib.hid hl2
    have hz : l.length - cap = 0 := by omega
    have hz2 : (l.length : Int) - (cap : Int) = 0 := by omega
    have hlc2 : cap ≤ l.length := by omega
    clear hl2 hd0 hl HL hlc
    go_enter Tryd.func46, Tryd.ntmps46
    go_wp2_with fail
    refine hf.mono ?_
    rintro e w1 ⟨rfl, hb⟩
    clear hf
    have hc1 : w1.cell? ⟨r, 0, none⟩ = some (.slice (some ⟨b, o, none⟩) l.length cap) := by rw [hb.cell (p := ⟨r, 0, none⟩) hlt]; exact hcell
    have hf1 : w1.frozen? ⟨r, 0, none⟩ = false := by rw [hb.frozen (p := ⟨r, 0, none⟩) hlt]; exact hfree
    have HB := Lib.hid hb
    clear hb hcell hfree
    have HR1 := Lib.hid ((HB.out.block r hlt).trans HR.out)
    have hconv : ∀ W : World, (convert 26 9 (.slice (some ⟨b, o, none⟩) 0 0)).run Tryd.prog W = .ok (.string ⟨#[]⟩) W := fun W =>
      Row.convert (l := []) ⟨_, 0, rfl, Nat.le_refl _, by simp [maxLen], fun h => absurd h (Nat.lt_irrefl 0)⟩
    have HK := Lib.hid (Kept.of_below (r := r) HB.out)
    go_wp2_with fail
    go_ret2
    refine ⟨rfl, ⟨_, Rd.set HR1.out, ?_⟩, HK.out.trans (Kept.set _ _ _)⟩
    exact ⟨_, 0, rfl, Nat.le_refl _, by simp [maxLen], fun h => absurd h (Nat.lt_irrefl 0)⟩
  · have hdrop := Row.drop HV.out k hkl
    rw [if_neg hck, Option.map_some, Lib.add_plain] at hdrop
    have HD := Lib.hid hdrop
    clear hdrop
    go_enter Tryd.func46, Tryd.ntmps46
    go_wp2_with fail
    refine hf.mono ?_
    rintro e w1 ⟨rfl, hb⟩
    clear hf
    have hc1 : w1.cell? ⟨r, 0, none⟩ = some (.slice (some ⟨b, o, none⟩) l.length cap) := by rw [hb.cell (p := ⟨r, 0, none⟩) hlt]; exact hcell
    have hf1 : w1.frozen? ⟨r, 0, none⟩ = false := by rw [hb.frozen (p := ⟨r, 0, none⟩) hlt]; exact hfree
    have HB := Lib.hid hb
    clear hb hcell hfree
    have HR1 := Lib.hid ((HB.out.block r hlt).trans HR.out)
    have HD1 : Hid (Row w1 (.slice (some ⟨b, o + k, none⟩) (l.length - k) (cap - k)) (l.drop k)) := HD.out.below HB.out
    have hconv : ∀ X, (convert 26 9 (.slice (some ⟨b, o + k, none⟩) m (cap - k))).run Tryd.prog (w1.setCell ⟨r, 0, none⟩ X) = .ok (.string ⟨((l.drop k).take m).toArray⟩) (w1.setCell ⟨r, 0, none⟩ X) := fun X =>
      Row.convert (Row.take (n := l.length - k) (Row.kept HR1.out (Kept.set _ _ _) HD1.out) m (by rw [HL.out]; exact hm))
    have HK := Lib.hid (Kept.of_below (r := r) HB.out)
    go_wp2_with fail
    all_goals
      go_ret2
      refine ⟨rfl, ⟨_, Rd.set HR1.out, ?_⟩, HK.out.trans (Kept.set _ _ _)⟩
      have hd := Row.drop HD1.out m (by rw [HL.out]; exact hm)
      first
        | rw [if_pos ‹cap - k = m›, show cap - k - m = 0 by omega] at hd
        | rw [if_neg ‹¬cap - k = m›, Option.map_some, Lib.add_plain] at hd
      rw [List.drop_drop] at hd
      exact Row.kept HR1.out (Kept.set _ _ _) hd

/-- WHAT Reader.Text ANSWERS AND LEAVES. -/
theorem rtext_any (r : Nat) (l : List UInt8) (hl : l.length ≤ 140737488355328) (w : World) (h : Rd 86 w r l) (hg : Glob w) :
    Calls Tryd.prog 46 #[.pointer (some ⟨r, 0, none⟩)] w fun e w' => e = .returned (.tuple #[.string ⟨(textV l).toArray⟩, .bool (textOk l)]) ∧ Rd 86 w' r (textRest l) ∧ Kept r w w' := by
  unfold textV textOk textRest textOf
  cases hx : firstN l with
  | none => exact rtext_none r l hl w h hg hx
  | some x =>
    obtain ⟨n, k⟩ := x
    simp only
    by_cases hn : n < 0 ∨ ((l.length - k : Nat) : Int) < n
    · rw [if_pos hn]
      exact rtext_long r l hl w h hg n k hx hn
    · rw [if_neg hn]
      obtain ⟨m, rfl⟩ : ∃ m : Nat, n = (m : Int) := ⟨n.toNat, by omega⟩
      rw [Int.toNat_natCast]
      exact rtext_ok r l hl w h hg m k hx (by omega)
end Go.Proofs.YtilplpjdbkipoaaDoor.NetP
