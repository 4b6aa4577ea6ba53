/-
  Proved: the contract of a reckoner's token. Conditions: it lies in memory; at most 20000 bytes are left.
-/
import Derived.Test.YtlgbfhjbfolibaaDoorArMem
namespace Go.Proofs.YtlgbfhjbfolibaaDoor
open Go Go.Shelf Go.RowKit ArMath

section
variable {w : World} {X : Nat} {vs : Vars} {vv mm nn ss : Value} {s : St}
set_option maxRecDepth 8000 in
theorem token_any (hl : s.left.length ≤ 20000) (h : Rk w X vs vv mm nn ss s) :
    Calls Tryd.prog 24 #[.pointer (some ⟨X, 0, none⟩)] w fun e w' => e = .returned (.string (tx s.tok)) ∧ Rk w' X vs vv mm nn ss s.next ∧ Below X w w' := by
  obtain ⟨c0, -, -, -, -, -, hfz⟩ := ar_cell h.blk
  have HH := Lib.hid h
  have HT := Lib.hid (fun W => trim_blank s.left W)
  obtain ⟨K, hK⟩ : ∃ K, skipB s.left = K := ⟨_, rfl⟩
  have HB := Lib.hid (fun W => behind_any K W)
  obtain ⟨L, hL⟩ : ∃ L, behB K = L := ⟨_, rfl⟩
  rw [hK] at HT
  rw [hL] at HB
  have hKL : L.length ≤ K.length := by rw [← hL]; exact beh_le K
  have hKl : K.length ≤ 20000 := by rw [← hK]; exact Nat.le_trans (drop_le _ _) hl
  have HE := Lib.hid (show tx s.tok = (tx K).extract 0 (K.length - L.length) ∧ s.next = { s with left := L } from by
    constructor
    · have : ((tx K).extract 0 (K.length - L.length)).data.toList = K.take (K.length - L.length) := by rw [Lib.extract_data, tx_list]; rfl
      rw [← tx_of ((tx K).extract 0 (K.length - L.length)), this]
      show tx (tokB s.left) = _
      unfold tokB
      rw [hK, hL]
    · show St.mk (leftB s.left) _ _ _ = _
      unfold leftB
      rw [hK, hL])
  have hs1 := tx_size K
  have hs2 := tx_size L
  obtain ⟨a, ha⟩ : ∃ a, tx K = a := ⟨_, rfl⟩
  obtain ⟨b, hb⟩ : ∃ b, tx L = b := ⟨_, rfl⟩
  obtain ⟨z, hz⟩ : ∃ z, tx s.left = z := ⟨_, rfl⟩
  rw [ha] at hs1 HT HB HE
  rw [hb] at hs2 HB
  rw [hz] at c0 HT
  obtain ⟨m, hm⟩ : ∃ m, K.length = L.length + m := ⟨K.length - L.length, by omega⟩
  have HX := Lib.hid (And.intro hb hz)
  rw [HE.out.1, HE.out.2, show K.length - L.length = m by omega]
  generalize K.length = kl at *
  generalize L.length = ll at *
  have hsz1 : (a.size : Int) = (ll : Int) + (m : Int) := by omega
  have hsz2 : (b.size : Int) = (ll : Int) := by omega
  have f0 := hfz 0
  have hlt := h.lt
  clear hfz h hK hL hKL hl ha hb hz hs1 hs2
  have hm2 : m ≤ 20000 := by omega
  clear hKl hm
  go_enter Tryd.func24, Tryd.ntmps24
  go_wp2_with (first
    | (go_at_call 40; (with_reducible refine (HT.out _).mono ?_); rintro e w1 ⟨rfl, hb1⟩; have HB1 := Lib.hid hb1; have HK1 := Lib.hid (HH.out.new hb1); clear hb1)
    | (go_at_call 42; (with_reducible refine (HB.out _).mono ?_); rintro e w2 ⟨rfl, hb2⟩; have HK2 := Lib.hid (HK1.out.new hb2); have HB2 := Lib.hid (HB1.out.trans (hb2.mono HB1.out.size)); obtain ⟨d0, -, -, -, -, -, dfz⟩ := ar_cell HK2.out.blk; have e0 := dfz 0; clear hb2 dfz))
  go_ret
  refine ⟨?_, ?_, ar_below (HB2.out.mono (by omega))⟩
  · rw [Nat.add_sub_cancel_left]; rfl
  · rw [← HX.out.1]
    exact ⟨ar_set0 HK2.out.blk _, Rws.setX HK2.out.rws⟩
end
end Go.Proofs.YtlgbfhjbfolibaaDoor
