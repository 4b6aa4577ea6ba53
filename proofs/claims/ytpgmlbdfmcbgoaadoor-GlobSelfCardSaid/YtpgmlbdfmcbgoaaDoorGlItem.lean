/-
  Proved: contracts of item, takes. Conditions: the items lie in memory.
-/
import Derived.Test.YtpgmlbdfmcbgoaaDoorGlMem
import Derived.LoopTactic
import Derived.OwnWalk
import Derived.BigQuiet
import Derived.Deep.QuietTactic
namespace Go.Proofs.YtpgmlbdfmcbgoaaDoor
open Go Go.RowKit GlyphMath GlMath

theorem item_any (a : Ch) (l : List Ch) (v : Value) (w : World) (h : ChAt w v (a :: l)) :
    Calls Tryd.prog 32 #[v] w fun e w' => e = .returned (.tuple #[.int .i32 (itemM (a :: l)).1, .int .i32 (itemM (a :: l)).2.1, .int .i64 ((itemM (a :: l)).2.2 : Int)]) ∧ Below w.heap.size w w' := by
  have HC := Lib.hid h
  obtain ⟨p, c, rfl, h1, h2, h3⟩ := h.is
  rcases h3 with ⟨rfl, rfl⟩ | ⟨b, o, rfl, hc⟩
  · simp at h1
  obtain ⟨c0, c1⟩ := hc 0 a rfl
  rw [Nat.zero_mul, Nat.add_zero] at c0 c1
  have HL := Lib.hid (fun c W => letter_any c W)
  obtain ⟨N, hN⟩ : ∃ N, (a :: l).length = N := ⟨_, rfl⟩
  have hN0 : (0 : Int) < (N : Int) := by rw [← hN, List.length_cons]; omega
  have HN := Lib.hid hN
  by_cases h3 : 2 < N
  · match l, hN with
    | [], hN => simp at hN; omega
    | [_], hN => simp at hN; omega
    | d :: g :: l, hN =>
      obtain ⟨c2, c3⟩ := hc 1 d rfl
      obtain ⟨c4, c5⟩ := hc 2 g rfl
      have HI := Lib.hid (fun x W => is_any d x W)
      have hI : itemM (a :: d :: g :: l) = if isM d 45 then (letM a, letM g, 3) else (letM a, letM a, 1) := rfl
      rw [hI]
      obtain ⟨D, hD⟩ : ∃ D, isM d 45 = D := ⟨_, rfl⟩
      have HD := Lib.hid (fun W => (show Calls _ _ _ W fun e w' => e = .returned (.bool D) ∧ Below W.heap.size W w' by rw [← hD]; exact HI.out 45 W))
      rw [hD]
      have h3I : (2 : Int) < (N : Int) := by omega
      have h1I : (1 : Int) < (N : Int) := by omega
      obtain ⟨a1, a2⟩ := a
      obtain ⟨d1, d2⟩ := d
      obtain ⟨g1, g2⟩ := g
      have HA := Lib.hid (fun W => letter_any (a1, a2) W)
      have HG := Lib.hid (fun W => letter_any (g1, g2) W)
      obtain ⟨LA, hLA⟩ : ∃ LA, letM (a1, a2) = LA := ⟨_, rfl⟩
      obtain ⟨LG, hLG⟩ : ∃ LG, letM (g1, g2) = LG := ⟨_, rfl⟩
      rw [hLA] at HA
      rw [hLG] at HG
      rw [hLA, hLG]
      rw [hN]
      simp only at c0 c1 c2 c3 c4 c5 HA HG HD
      have HCC := Lib.hid (fun (W : World) (hb : Below w.heap.size w W) => (show W.cell? ⟨b, o + 1 * 2, none⟩ = some (.int .i32 d1) ∧ W.cell? ⟨b, o + 1 * 2 + 1, none⟩ = some (.bool d2) ∧ W.cell? ⟨b, o + 2 * 2, none⟩ = some (.int .i32 g1) ∧ W.cell? ⟨b, o + 2 * 2 + 1, none⟩ = some (.bool g2) from ⟨(hb.cell (World.block_lt_of_cell? w _ c2)).trans c2, (hb.cell (World.block_lt_of_cell? w _ c3)).trans c3, (hb.cell (World.block_lt_of_cell? w _ c4)).trans c4, (hb.cell (World.block_lt_of_cell? w _ c5)).trans c5⟩))
      clear hI hD hLA hLG hc h1 h2 HC HL HI h3 hN HN c2 c3 c4 c5
      cases D
      all_goals
        go_enter Tryd.func32, Tryd.ntmps32
        go_wp2_with (first
          | (go_at_call 36; (with_reducible refine (HA.out _).mono ?_); rintro e w1 ⟨rfl, hb1⟩; have HB1 := Lib.hid hb1; obtain ⟨c2, c3, c4, c5⟩ := HCC.out _ HB1.out; clear hb1 HA)
          | (go_at_call 19; (with_reducible refine (HD.out _).mono ?_); rintro e w2 ⟨rfl, hb2⟩; have HB2 := Lib.hid (HB1.out.trans (hb2.mono HB1.out.size)); clear c2 c3 c4 c5; obtain ⟨c2, c3, c4, c5⟩ := HCC.out _ HB2.out; clear hb2)
          | (go_at_call 36; (with_reducible refine (HG.out _).mono ?_); rintro e w3 ⟨rfl, hb3⟩; have HB3 := Lib.hid (HB2.out.trans (hb3.mono HB2.out.size)); clear hb3))
      · go_ret3
        exact ⟨rfl, HB2.out⟩
      · go_ret3
        exact ⟨rfl, HB3.out⟩
  · have hI : itemM (a :: l) = (letM a, letM a, 1) := by
      match l, hN with
      | [], _ => rfl
      | [_], _ => rfl
      | _ :: _ :: _, hN => simp at hN; omega
    rw [hI]
    obtain ⟨a1, a2⟩ := a
    have HA := Lib.hid (fun W => letter_any (a1, a2) W)
    obtain ⟨LA, hLA⟩ : ∃ LA, letM (a1, a2) = LA := ⟨_, rfl⟩
    rw [hLA] at HA
    rw [hLA]
    rw [hN]
    have h3b : decide ((2 : Int) < (N : Int)) = false := by simp; omega
    have h3I : ¬ (2 : Int) < (N : Int) := by omega
    simp only at c0 c1 HA
    clear hI hLA hc h1 h2 HC HL h3 hN HN
    go_enter Tryd.func32, Tryd.ntmps32
    go_wp2_with (first
      | (go_at_call 36; (with_reducible refine (HA.out _).mono ?_); rintro e w1 ⟨rfl, hb1⟩; have HB1 := Lib.hid hb1; clear hb1 HA))
    go_ret3
    exact ⟨rfl, HB1.out⟩
end Go.Proofs.YtpgmlbdfmcbgoaaDoor
