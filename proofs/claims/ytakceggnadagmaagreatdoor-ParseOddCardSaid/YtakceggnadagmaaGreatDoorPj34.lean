/-
  Proved: texts joined: Proved: the contract of sign. Conditions: the reader lies in memory; the program's signs lie as they should.
  Proved: the contract of token. Conditions: the reader lies in memory; the program's signs lie as they should.
  Proved: plain facts on a text and its letters' bytes. Conditions: as each says.
-/
import Derived.Test.YtakceggnadagmaaGreatDoorPj31
import Derived.Test.YtakceggnadagmaaGreatDoorPj33
import Derived.Test.YtakceggnadagmaaGreatDoorPj27
namespace Go.Proofs.YtakceggnadagmaaGreatDoor
open Go Go.RowKit GlyphMath LexMath

def signCells : List Value := [.string ⟨#[38, 38]⟩, .string ⟨#[124, 124]⟩, .string ⟨#[59, 59]⟩, .string ⟨#[62, 62]⟩, .string ⟨#[59]⟩, .string ⟨#[124]⟩, .string ⟨#[40]⟩, .string ⟨#[41]⟩, .string ⟨#[62]⟩, .string ⟨#[60]⟩, .string ⟨#[10]⟩]
/-- The program's signs lie as they should. -/
def Signs (w : World) : Prop := w.rangeAt 0 0 signCells
theorem Signs.kept {D : Nat → Prop} {w w' : World} (h : Signs w) (hk : Kept D w w') (hD : ¬ D 0) : Signs w' := fun j v hj => hk.cell (h j v hj) hD
theorem info_signs : (Tryz.prog.info? 149).map (·.size) = some signCells.length := by kernel_rfl

theorem sign_at0 (w : World) : (Instr.index 149 (.agg #[.string ⟨#[38, 38]⟩, .string ⟨#[124, 124]⟩, .string ⟨#[59, 59]⟩, .string ⟨#[62, 62]⟩, .string ⟨#[59]⟩, .string ⟨#[124]⟩, .string ⟨#[40]⟩, .string ⟨#[41]⟩, .string ⟨#[62]⟩, .string ⟨#[60]⟩, .string ⟨#[10]⟩]) (.int .i64 0)).run Tryz.prog w = .ok (.string ⟨#[38, 38]⟩) w := by kernel_rfl
theorem sign_at1 (w : World) : (Instr.index 149 (.agg #[.string ⟨#[38, 38]⟩, .string ⟨#[124, 124]⟩, .string ⟨#[59, 59]⟩, .string ⟨#[62, 62]⟩, .string ⟨#[59]⟩, .string ⟨#[124]⟩, .string ⟨#[40]⟩, .string ⟨#[41]⟩, .string ⟨#[62]⟩, .string ⟨#[60]⟩, .string ⟨#[10]⟩]) (.int .i64 1)).run Tryz.prog w = .ok (.string ⟨#[124, 124]⟩) w := by kernel_rfl
theorem sign_at2 (w : World) : (Instr.index 149 (.agg #[.string ⟨#[38, 38]⟩, .string ⟨#[124, 124]⟩, .string ⟨#[59, 59]⟩, .string ⟨#[62, 62]⟩, .string ⟨#[59]⟩, .string ⟨#[124]⟩, .string ⟨#[40]⟩, .string ⟨#[41]⟩, .string ⟨#[62]⟩, .string ⟨#[60]⟩, .string ⟨#[10]⟩]) (.int .i64 2)).run Tryz.prog w = .ok (.string ⟨#[59, 59]⟩) w := by kernel_rfl
theorem sign_at3 (w : World) : (Instr.index 149 (.agg #[.string ⟨#[38, 38]⟩, .string ⟨#[124, 124]⟩, .string ⟨#[59, 59]⟩, .string ⟨#[62, 62]⟩, .string ⟨#[59]⟩, .string ⟨#[124]⟩, .string ⟨#[40]⟩, .string ⟨#[41]⟩, .string ⟨#[62]⟩, .string ⟨#[60]⟩, .string ⟨#[10]⟩]) (.int .i64 3)).run Tryz.prog w = .ok (.string ⟨#[62, 62]⟩) w := by kernel_rfl
theorem sign_at4 (w : World) : (Instr.index 149 (.agg #[.string ⟨#[38, 38]⟩, .string ⟨#[124, 124]⟩, .string ⟨#[59, 59]⟩, .string ⟨#[62, 62]⟩, .string ⟨#[59]⟩, .string ⟨#[124]⟩, .string ⟨#[40]⟩, .string ⟨#[41]⟩, .string ⟨#[62]⟩, .string ⟨#[60]⟩, .string ⟨#[10]⟩]) (.int .i64 4)).run Tryz.prog w = .ok (.string ⟨#[59]⟩) w := by kernel_rfl
theorem sign_at5 (w : World) : (Instr.index 149 (.agg #[.string ⟨#[38, 38]⟩, .string ⟨#[124, 124]⟩, .string ⟨#[59, 59]⟩, .string ⟨#[62, 62]⟩, .string ⟨#[59]⟩, .string ⟨#[124]⟩, .string ⟨#[40]⟩, .string ⟨#[41]⟩, .string ⟨#[62]⟩, .string ⟨#[60]⟩, .string ⟨#[10]⟩]) (.int .i64 5)).run Tryz.prog w = .ok (.string ⟨#[124]⟩) w := by kernel_rfl
theorem sign_at6 (w : World) : (Instr.index 149 (.agg #[.string ⟨#[38, 38]⟩, .string ⟨#[124, 124]⟩, .string ⟨#[59, 59]⟩, .string ⟨#[62, 62]⟩, .string ⟨#[59]⟩, .string ⟨#[124]⟩, .string ⟨#[40]⟩, .string ⟨#[41]⟩, .string ⟨#[62]⟩, .string ⟨#[60]⟩, .string ⟨#[10]⟩]) (.int .i64 6)).run Tryz.prog w = .ok (.string ⟨#[40]⟩) w := by kernel_rfl
theorem sign_at7 (w : World) : (Instr.index 149 (.agg #[.string ⟨#[38, 38]⟩, .string ⟨#[124, 124]⟩, .string ⟨#[59, 59]⟩, .string ⟨#[62, 62]⟩, .string ⟨#[59]⟩, .string ⟨#[124]⟩, .string ⟨#[40]⟩, .string ⟨#[41]⟩, .string ⟨#[62]⟩, .string ⟨#[60]⟩, .string ⟨#[10]⟩]) (.int .i64 7)).run Tryz.prog w = .ok (.string ⟨#[41]⟩) w := by kernel_rfl
theorem sign_at8 (w : World) : (Instr.index 149 (.agg #[.string ⟨#[38, 38]⟩, .string ⟨#[124, 124]⟩, .string ⟨#[59, 59]⟩, .string ⟨#[62, 62]⟩, .string ⟨#[59]⟩, .string ⟨#[124]⟩, .string ⟨#[40]⟩, .string ⟨#[41]⟩, .string ⟨#[62]⟩, .string ⟨#[60]⟩, .string ⟨#[10]⟩]) (.int .i64 8)).run Tryz.prog w = .ok (.string ⟨#[62]⟩) w := by kernel_rfl
theorem sign_at9 (w : World) : (Instr.index 149 (.agg #[.string ⟨#[38, 38]⟩, .string ⟨#[124, 124]⟩, .string ⟨#[59, 59]⟩, .string ⟨#[62, 62]⟩, .string ⟨#[59]⟩, .string ⟨#[124]⟩, .string ⟨#[40]⟩, .string ⟨#[41]⟩, .string ⟨#[62]⟩, .string ⟨#[60]⟩, .string ⟨#[10]⟩]) (.int .i64 9)).run Tryz.prog w = .ok (.string ⟨#[60]⟩) w := by kernel_rfl
theorem sign_at10 (w : World) : (Instr.index 149 (.agg #[.string ⟨#[38, 38]⟩, .string ⟨#[124, 124]⟩, .string ⟨#[59, 59]⟩, .string ⟨#[62, 62]⟩, .string ⟨#[59]⟩, .string ⟨#[124]⟩, .string ⟨#[40]⟩, .string ⟨#[41]⟩, .string ⟨#[62]⟩, .string ⟨#[60]⟩, .string ⟨#[10]⟩]) (.int .i64 10)).run Tryz.prog w = .ok (.string ⟨#[10]⟩) w := by kernel_rfl

/-- What sign answers. -/
def SignEnd (w w' : World) (e : Ending) (X G sz : Nat) (xs : List Nat) (m : Option (List Nat × List Nat)) : Prop :=
  match m with
  | some (p, r) => e = .returned (txt (enc p)) ∧ RStep w w' X G sz r
  | none => e = .returned (txt []) ∧ RStep w w' X G sz xs

/-- What sign is doing. -/
structure SgAt (w wr : World) (X G sz : Nat) (xs : List Nat) (M : Option (List Nat × List Nat)) (k : Nat) : Prop where
  step : RStep w wr X G sz xs
  said : signM (signs.drop k) xs = M
theorem signM_some {p : List Nat} {l : List (List Nat)} {xs r : List Nat} (h : takes p xs = some r) : signM (p :: l) xs = some (p, r) := by rw [signM, h]
theorem signM_none {p : List Nat} {l : List (List Nat)} {xs : List Nat} (h : takes p xs = none) : signM (p :: l) xs = signM l xs := by rw [signM, h]

set_option maxHeartbeats 4000000 in
set_option maxRecDepth 100000 in
theorem sign_any {w : World} {X G sz : Nat} {xs : List Nat} (h : Rd w X G sz xs) (hS : Signs w) :
    Calls Tryz.prog 74 #[.pointer (some ⟨X, 0, none⟩)] w fun e w' => SignEnd w w' e X G sz xs (signM signs xs) := by
  have HR := Lib.hid h
  have HS := Lib.hid hS
  obtain ⟨M, hM⟩ : ∃ M, signM signs xs = M := ⟨_, rfl⟩
  rw [hM]
  have HM := Lib.hid hM
  clear h hS hM
  go_enter Tryz.func74, Tryz.ntmps74
  go_wp2_with (refine wpList_load_mid (by rfl) 149 (.global 0) (by rfl) 0 0 (by rfl) signCells _ HS.out Tryz.underlying149 (by rfl) info_signs ?_; rw [show (Value.agg signCells.toArray) = Value.agg #[.string ⟨#[38, 38]⟩, .string ⟨#[124, 124]⟩, .string ⟨#[59, 59]⟩, .string ⟨#[62, 62]⟩, .string ⟨#[59]⟩, .string ⟨#[124]⟩, .string ⟨#[40]⟩, .string ⟨#[41]⟩, .string ⟨#[62]⟩, .string ⟨#[60]⟩, .string ⟨#[10]⟩] from rfl])
  go_loopw [6] (fun i wr => ∃ k : Nat, i = .int .i64 (k : Int) ∧ k ≤ 11 ∧ SgAt w wr X G sz xs M k) (fun i _ => 11 - (intOf i).toNat)
  case atStart => exact ⟨0, rfl, by omega, RStep.refl HR.out, HM.out⟩
  case round =>
    obtain ⟨k, rfl, hk, hA⟩ := hrel
    have HA := Lib.hid hA
    clear hA
    rcases Nat.lt_or_ge k 11 with hlt | hge
    · have hcases : k = 0 ∨ k = 1 ∨ k = 2 ∨ k = 3 ∨ k = 4 ∨ k = 5 ∨ k = 6 ∨ k = 7 ∨ k = 8 ∨ k = 9 ∨ k = 10 := by omega
      clear hk hlt
      rcases hcases with rfl | rfl | rfl | rfl | rfl | rfl | rfl | rfl | rfl | rfl | rfl
      · have ix := sign_at0
        obtain ⟨mt, hmt⟩ : ∃ mt, takes [38, 38] xs = mt := ⟨_, rfl⟩
        have HMT := Lib.hid hmt
        clear hmt
        cases mt with
        | some r =>
          go_wp2_with (go_at_call 99; refine (takesM HA.out.step.1 ⟨#[38, 38]⟩ [38, 38] rfl (by decide) HMT.out).mono ?_; rintro e w2 ⟨rfl, hs⟩; simp only [Option.getD_some] at hs; have HS2 := Lib.hid hs; clear hs)
          go_ret
          rw [show M = some ([38, 38], r) from HA.out.said.symm.trans (signM_some HMT.out)]
          exact ⟨rfl, HA.out.step.trans HS2.out⟩
        | none =>
          go_wp2_with (go_at_call 99; refine (takesM HA.out.step.1 ⟨#[38, 38]⟩ [38, 38] rfl (by decide) HMT.out).mono ?_; rintro e w2 ⟨rfl, hs⟩; simp only [Option.getD_none] at hs; have HS2 := Lib.hid hs; clear hs)
          go_roundw
          case rel => exact ⟨1, rfl, by omega, HA.out.step.trans HS2.out, (signM_none HMT.out).symm.trans HA.out.said⟩
          case measure => decide
      · have ix := sign_at1
        obtain ⟨mt, hmt⟩ : ∃ mt, takes [124, 124] xs = mt := ⟨_, rfl⟩
        have HMT := Lib.hid hmt
        clear hmt
        cases mt with
        | some r =>
          go_wp2_with (go_at_call 99; refine (takesM HA.out.step.1 ⟨#[124, 124]⟩ [124, 124] rfl (by decide) HMT.out).mono ?_; rintro e w2 ⟨rfl, hs⟩; simp only [Option.getD_some] at hs; have HS2 := Lib.hid hs; clear hs)
          go_ret
          rw [show M = some ([124, 124], r) from HA.out.said.symm.trans (signM_some HMT.out)]
          exact ⟨rfl, HA.out.step.trans HS2.out⟩
        | none =>
          go_wp2_with (go_at_call 99; refine (takesM HA.out.step.1 ⟨#[124, 124]⟩ [124, 124] rfl (by decide) HMT.out).mono ?_; rintro e w2 ⟨rfl, hs⟩; simp only [Option.getD_none] at hs; have HS2 := Lib.hid hs; clear hs)
          go_roundw
          case rel => exact ⟨2, rfl, by omega, HA.out.step.trans HS2.out, (signM_none HMT.out).symm.trans HA.out.said⟩
          case measure => decide
      · have ix := sign_at2
        obtain ⟨mt, hmt⟩ : ∃ mt, takes [59, 59] xs = mt := ⟨_, rfl⟩
        have HMT := Lib.hid hmt
        clear hmt
        cases mt with
        | some r =>
          go_wp2_with (go_at_call 99; refine (takesM HA.out.step.1 ⟨#[59, 59]⟩ [59, 59] rfl (by decide) HMT.out).mono ?_; rintro e w2 ⟨rfl, hs⟩; simp only [Option.getD_some] at hs; have HS2 := Lib.hid hs; clear hs)
          go_ret
          rw [show M = some ([59, 59], r) from HA.out.said.symm.trans (signM_some HMT.out)]
          exact ⟨rfl, HA.out.step.trans HS2.out⟩
        | none =>
          go_wp2_with (go_at_call 99; refine (takesM HA.out.step.1 ⟨#[59, 59]⟩ [59, 59] rfl (by decide) HMT.out).mono ?_; rintro e w2 ⟨rfl, hs⟩; simp only [Option.getD_none] at hs; have HS2 := Lib.hid hs; clear hs)
          go_roundw
          case rel => exact ⟨3, rfl, by omega, HA.out.step.trans HS2.out, (signM_none HMT.out).symm.trans HA.out.said⟩
          case measure => decide
      · have ix := sign_at3
        obtain ⟨mt, hmt⟩ : ∃ mt, takes [62, 62] xs = mt := ⟨_, rfl⟩
        have HMT := Lib.hid hmt
        clear hmt
        cases mt with
        | some r =>
          go_wp2_with (go_at_call 99; refine (takesM HA.out.step.1 ⟨#[62, 62]⟩ [62, 62] rfl (by decide) HMT.out).mono ?_; rintro e w2 ⟨rfl, hs⟩; simp only [Option.getD_some] at hs; have HS2 := Lib.hid hs; clear hs)
          go_ret
          rw [show M = some ([62, 62], r) from HA.out.said.symm.trans (signM_some HMT.out)]
          exact ⟨rfl, HA.out.step.trans HS2.out⟩
        | none =>
          go_wp2_with (go_at_call 99; refine (takesM HA.out.step.1 ⟨#[62, 62]⟩ [62, 62] rfl (by decide) HMT.out).mono ?_; rintro e w2 ⟨rfl, hs⟩; simp only [Option.getD_none] at hs; have HS2 := Lib.hid hs; clear hs)
          go_roundw
          case rel => exact ⟨4, rfl, by omega, HA.out.step.trans HS2.out, (signM_none HMT.out).symm.trans HA.out.said⟩
          case measure => decide
      · have ix := sign_at4
        obtain ⟨mt, hmt⟩ : ∃ mt, takes [59] xs = mt := ⟨_, rfl⟩
        have HMT := Lib.hid hmt
        clear hmt
        cases mt with
        | some r =>
          go_wp2_with (go_at_call 99; refine (takesM HA.out.step.1 ⟨#[59]⟩ [59] rfl (by decide) HMT.out).mono ?_; rintro e w2 ⟨rfl, hs⟩; simp only [Option.getD_some] at hs; have HS2 := Lib.hid hs; clear hs)
          go_ret
          rw [show M = some ([59], r) from HA.out.said.symm.trans (signM_some HMT.out)]
          exact ⟨rfl, HA.out.step.trans HS2.out⟩
        | none =>
          go_wp2_with (go_at_call 99; refine (takesM HA.out.step.1 ⟨#[59]⟩ [59] rfl (by decide) HMT.out).mono ?_; rintro e w2 ⟨rfl, hs⟩; simp only [Option.getD_none] at hs; have HS2 := Lib.hid hs; clear hs)
          go_roundw
          case rel => exact ⟨5, rfl, by omega, HA.out.step.trans HS2.out, (signM_none HMT.out).symm.trans HA.out.said⟩
          case measure => decide
      · have ix := sign_at5
        obtain ⟨mt, hmt⟩ : ∃ mt, takes [124] xs = mt := ⟨_, rfl⟩
        have HMT := Lib.hid hmt
        clear hmt
        cases mt with
        | some r =>
          go_wp2_with (go_at_call 99; refine (takesM HA.out.step.1 ⟨#[124]⟩ [124] rfl (by decide) HMT.out).mono ?_; rintro e w2 ⟨rfl, hs⟩; simp only [Option.getD_some] at hs; have HS2 := Lib.hid hs; clear hs)
          go_ret
          rw [show M = some ([124], r) from HA.out.said.symm.trans (signM_some HMT.out)]
          exact ⟨rfl, HA.out.step.trans HS2.out⟩
        | none =>
          go_wp2_with (go_at_call 99; refine (takesM HA.out.step.1 ⟨#[124]⟩ [124] rfl (by decide) HMT.out).mono ?_; rintro e w2 ⟨rfl, hs⟩; simp only [Option.getD_none] at hs; have HS2 := Lib.hid hs; clear hs)
          go_roundw
          case rel => exact ⟨6, rfl, by omega, HA.out.step.trans HS2.out, (signM_none HMT.out).symm.trans HA.out.said⟩
          case measure => decide
      · have ix := sign_at6
        obtain ⟨mt, hmt⟩ : ∃ mt, takes [40] xs = mt := ⟨_, rfl⟩
        have HMT := Lib.hid hmt
        clear hmt
        cases mt with
        | some r =>
          go_wp2_with (go_at_call 99; refine (takesM HA.out.step.1 ⟨#[40]⟩ [40] rfl (by decide) HMT.out).mono ?_; rintro e w2 ⟨rfl, hs⟩; simp only [Option.getD_some] at hs; have HS2 := Lib.hid hs; clear hs)
          go_ret
          rw [show M = some ([40], r) from HA.out.said.symm.trans (signM_some HMT.out)]
          exact ⟨rfl, HA.out.step.trans HS2.out⟩
        | none =>
          go_wp2_with (go_at_call 99; refine (takesM HA.out.step.1 ⟨#[40]⟩ [40] rfl (by decide) HMT.out).mono ?_; rintro e w2 ⟨rfl, hs⟩; simp only [Option.getD_none] at hs; have HS2 := Lib.hid hs; clear hs)
          go_roundw
          case rel => exact ⟨7, rfl, by omega, HA.out.step.trans HS2.out, (signM_none HMT.out).symm.trans HA.out.said⟩
          case measure => decide
      · have ix := sign_at7
        obtain ⟨mt, hmt⟩ : ∃ mt, takes [41] xs = mt := ⟨_, rfl⟩
        have HMT := Lib.hid hmt
        clear hmt
        cases mt with
        | some r =>
          go_wp2_with (go_at_call 99; refine (takesM HA.out.step.1 ⟨#[41]⟩ [41] rfl (by decide) HMT.out).mono ?_; rintro e w2 ⟨rfl, hs⟩; simp only [Option.getD_some] at hs; have HS2 := Lib.hid hs; clear hs)
          go_ret
          rw [show M = some ([41], r) from HA.out.said.symm.trans (signM_some HMT.out)]
          exact ⟨rfl, HA.out.step.trans HS2.out⟩
        | none =>
          go_wp2_with (go_at_call 99; refine (takesM HA.out.step.1 ⟨#[41]⟩ [41] rfl (by decide) HMT.out).mono ?_; rintro e w2 ⟨rfl, hs⟩; simp only [Option.getD_none] at hs; have HS2 := Lib.hid hs; clear hs)
          go_roundw
          case rel => exact ⟨8, rfl, by omega, HA.out.step.trans HS2.out, (signM_none HMT.out).symm.trans HA.out.said⟩
          case measure => decide
      · have ix := sign_at8
        obtain ⟨mt, hmt⟩ : ∃ mt, takes [62] xs = mt := ⟨_, rfl⟩
        have HMT := Lib.hid hmt
        clear hmt
        cases mt with
        | some r =>
          go_wp2_with (go_at_call 99; refine (takesM HA.out.step.1 ⟨#[62]⟩ [62] rfl (by decide) HMT.out).mono ?_; rintro e w2 ⟨rfl, hs⟩; simp only [Option.getD_some] at hs; have HS2 := Lib.hid hs; clear hs)
          go_ret
          rw [show M = some ([62], r) from HA.out.said.symm.trans (signM_some HMT.out)]
          exact ⟨rfl, HA.out.step.trans HS2.out⟩
        | none =>
          go_wp2_with (go_at_call 99; refine (takesM HA.out.step.1 ⟨#[62]⟩ [62] rfl (by decide) HMT.out).mono ?_; rintro e w2 ⟨rfl, hs⟩; simp only [Option.getD_none] at hs; have HS2 := Lib.hid hs; clear hs)
          go_roundw
          case rel => exact ⟨9, rfl, by omega, HA.out.step.trans HS2.out, (signM_none HMT.out).symm.trans HA.out.said⟩
          case measure => decide
      · have ix := sign_at9
        obtain ⟨mt, hmt⟩ : ∃ mt, takes [60] xs = mt := ⟨_, rfl⟩
        have HMT := Lib.hid hmt
        clear hmt
        cases mt with
        | some r =>
          go_wp2_with (go_at_call 99; refine (takesM HA.out.step.1 ⟨#[60]⟩ [60] rfl (by decide) HMT.out).mono ?_; rintro e w2 ⟨rfl, hs⟩; simp only [Option.getD_some] at hs; have HS2 := Lib.hid hs; clear hs)
          go_ret
          rw [show M = some ([60], r) from HA.out.said.symm.trans (signM_some HMT.out)]
          exact ⟨rfl, HA.out.step.trans HS2.out⟩
        | none =>
          go_wp2_with (go_at_call 99; refine (takesM HA.out.step.1 ⟨#[60]⟩ [60] rfl (by decide) HMT.out).mono ?_; rintro e w2 ⟨rfl, hs⟩; simp only [Option.getD_none] at hs; have HS2 := Lib.hid hs; clear hs)
          go_roundw
          case rel => exact ⟨10, rfl, by omega, HA.out.step.trans HS2.out, (signM_none HMT.out).symm.trans HA.out.said⟩
          case measure => decide
      · have ix := sign_at10
        obtain ⟨mt, hmt⟩ : ∃ mt, takes [10] xs = mt := ⟨_, rfl⟩
        have HMT := Lib.hid hmt
        clear hmt
        cases mt with
        | some r =>
          go_wp2_with (go_at_call 99; refine (takesM HA.out.step.1 ⟨#[10]⟩ [10] rfl (by decide) HMT.out).mono ?_; rintro e w2 ⟨rfl, hs⟩; simp only [Option.getD_some] at hs; have HS2 := Lib.hid hs; clear hs)
          go_ret
          rw [show M = some ([10], r) from HA.out.said.symm.trans (signM_some HMT.out)]
          exact ⟨rfl, HA.out.step.trans HS2.out⟩
        | none =>
          go_wp2_with (go_at_call 99; refine (takesM HA.out.step.1 ⟨#[10]⟩ [10] rfl (by decide) HMT.out).mono ?_; rintro e w2 ⟨rfl, hs⟩; simp only [Option.getD_none] at hs; have HS2 := Lib.hid hs; clear hs)
          go_roundw
          case rel => exact ⟨11, rfl, by omega, HA.out.step.trans HS2.out, (signM_none HMT.out).symm.trans HA.out.said⟩
          case measure => decide
    · obtain rfl : k = 11 := by omega
      clear hk hge
      go_wp2_with fail
      go_ret
      have := HA.out.said
      rw [← this]
      exact ⟨rfl, HA.out.step⟩
end Go.Proofs.YtakceggnadagmaaGreatDoor

namespace Go.Proofs.YtakceggnadagmaaGreatDoor
open Go Go.RowKit GlyphMath LexMath

/-! ### A variable of four cells -/
theorem four_cells {w : World} {k : Nat} {a b c d : Value} {t : TypeId} {fr : Nat × Nat} (h : w.heap[k]? = some (.cells #[a, b, c, d] t fr)) :
    w.cell? ⟨k, 0, none⟩ = some a ∧ w.cell? ⟨k, 1, none⟩ = some b ∧ w.cell? ⟨k, 2, none⟩ = some c ∧ w.cell? ⟨k, 3, none⟩ = some d := by
  refine ⟨?_, ?_, ?_, ?_⟩ <;> simp [World.cell?, h]
theorem four_free {w : World} {k : Nat} {a b c d : Value} {t : TypeId} (h : w.heap[k]? = some (.cells #[a, b, c, d] t (0, 0))) (j : Nat) : w.frozen? ⟨k, j, none⟩ = false := frozen_plain h j

theorem four_put {w : World} {k : Nat} {x0 x1 x2 x3 : Value} {t : TypeId} (h : w.heap[k]? = some (.cells #[x0, x1, x2, x3] t (0, 0))) (a b c d : Value) :
    ((((w.setCell ⟨k, 0, none⟩ a).setCell ⟨k, 1, none⟩ b).setCell ⟨k, 2, none⟩ c).setCell ⟨k, 3, none⟩ d).heap[k]? = some (.cells #[a, b, c, d] t (0, 0)) :=
  heap_setCell_same _ k 3 _ t d (heap_setCell_same _ k 2 _ t c (heap_setCell_same _ k 1 _ t b (heap_setCell_same w k 0 _ t a h)))
theorem token_info : (Tryz.prog.info? 72).map (·.size) = some 4 := by kernel_rfl
theorem load_token {w : World} {k : Nat} {a b c d : Value} {t : TypeId} {fr : Nat × Nat} (h : w.heap[k]? = some (.cells #[a, b, c, d] t fr)) : (loadVar 72 ⟨k, 0, none⟩).run Tryz.prog w = .ok (.agg #[a, b, c, d]) w :=
  run_loadVar_row (P := Tryz.prog) w k t 72 _ fr _ h Tryz.underlying72 rfl token_info
theorem ret_token {fn : Func} {p u : Tmp} (hf : fn.results = #[.cell p 72, .tmp u]) {tmps : Array Value} {k : Nat} {a b c d x : Value} {w : World} {t : TypeId} {fr : Nat × Nat} (h : w.heap[k]? = some (.cells #[a, b, c, d] t fr)) (h2 : tmps.getD p undef = .pointer (some ⟨k, 0, none⟩)) (h3 : tmps.getD u undef = x) :
    (results fn tmps).run Tryz.prog w = .ok (.tuple #[.agg #[a, b, c, d], x]) w := by
  rw [results_cell_tmp hf, h2, h3]
  simp [asAddr, Result.andThen, load_token h]

def tokV (t : Tk) (u : Value) : Value := .agg #[.int .i64 t.kind, txt t.text, u, .int .i64 (t.at_ : Int)]
def ZT : Obj := .cells #[.int .i64 0, .string ⟨#[]⟩, .slice none 0 0, .int .i64 0] 72
/-- What token answers. -/
def TokEnd (w w' : World) (e : Ending) (X G sz : Nat) (m : Res Tk) : Prop :=
  match m with
  | .ok (t, xs) => ∃ u, e = .returned (.tuple #[tokV t u, .int .i64 0]) ∧ WordN w' w.heap.size u t.word ∧ Rd w' X G sz xs ∧ Kept (fun k => k = X) w w'
  | .error c => (c = 2 ∨ c = 3) ∧ e = .returned (.tuple #[tokV ⟨0, [], [], 0⟩ zeroV, .int .i64 (c : Int)]) ∧ Kept (fun k => k = X) w w'
def tokM (n : Nat) (xs : List Nat) : Res Tk := if xs = [] then .ok (⟨3, [], [], n⟩, []) else tokenM n xs

theorem signM_ne : ∀ (l : List (List Nat)) (xs p r : List Nat), (∀ q ∈ l, q ≠ []) → signM l xs = some (p, r) → p ≠ []
  | [], _, _, _, _, h => by cases h
  | q :: l, xs, p, r, hl, h => by
    rw [signM] at h
    cases ht : takes q xs with
    | some ys => rw [ht] at h; cases h; exact hl q (by simp)
    | none => rw [ht] at h; exact signM_ne l xs p r (fun q' hq => hl q' (List.mem_cons_of_mem _ hq)) h

def wordTok (n : Nat) (m : Res (List Pt)) : Res Tk :=
  match m with
  | .error e => .error e
  | .ok (ps, r) => .ok (⟨1, [], ps, n⟩, r)
theorem tok_sign {n : Nat} {xs p r : List Nat} (hx : xs ≠ []) (h : signM signs xs = some (p, r)) : tokM n xs = .ok (⟨2, enc p, [], n⟩, r) := by
  unfold tokM tokenM
  rw [if_neg hx, h]
theorem tok_amp {n : Nat} {xs : List Nat} (hx : xs ≠ []) (h : signM signs xs = none) (ha : next xs = 38) : tokM n xs = .error 2 := by
  unfold tokM tokenM
  rw [if_neg hx, h]
  simp only
  rw [if_pos ha]
theorem tok_word {n : Nat} {xs : List Nat} (hx : xs ≠ []) (h : signM signs xs = none) (ha : next xs ≠ 38) : tokM n xs = wordTok n (partsM 20 xs) := by
  unfold tokM tokenM wordTok
  rw [if_neg hx, h]
  simp only
  rw [if_neg ha]
  cases partsM 20 xs <;> rfl

set_option maxHeartbeats 1000000 in
set_option maxRecDepth 100000 in
theorem token_any {w : World} {X G sz : Nat} {xs : List Nat} (h : Rd w X G sz xs) (hS : Signs w) :
    Calls Tryz.prog 43 #[.pointer (some ⟨X, 0, none⟩)] w fun e w' => TokEnd w w' e X G sz (tokM (sz - (enc xs).length) xs) := by
  have hb1 : Below w.heap.size w (w.alloc ZT) := (Below.refl _ w).alloc (Nat.le_refl _) _
  have hr1 := h.below hb1
  have hs1 : Signs (w.alloc ZT) := hS.kept (D := fun _ => False) (Kept.of_below hb1) (fun h => h)
  have HX := Lib.hid h.lt
  have HN := Lib.hid (next_any hr1)
  have HSG := Lib.hid (sign_any hr1 hs1)
  obtain ⟨n, hn⟩ : ∃ n, sz - (enc xs).length = n := ⟨_, rfl⟩
  have HAT := Lib.hid (show _ from by have := at_any hr1; rw [hn] at this; exact this)
  rw [hn]
  obtain ⟨m, hm⟩ : ∃ m, signM signs xs = m := ⟨_, rfl⟩
  rw [hm] at HSG
  have HM := Lib.hid hm
  have HR := Lib.hid hr1
  have HR0 := Lib.hid h
  have base : ∀ w', Kept (fun k => k = X) (w.alloc ZT) w' → w'.heap[w.heap.size]? = some ZT ∧ Kept (fun k => k = X) w w' := fun w' k =>
    ⟨k.heap (heap_alloc_new w ZT) (fun e => by have := h.lt.1; omega), (Kept.of_below hb1).on k⟩
  have HBASE := Lib.hid base
  clear h hS hb1 hr1 hs1 hn hm base
  cases xs with
  | nil =>
    go_enter Tryz.func43, Tryz.ntmps43
    go_wp2_with (first
      | (go_at_call 42; refine HAT.out.mono ?_; rintro e w1 ⟨rfl, rfl⟩; simp only [ZT])
      | (go_at_call 72; refine HN.out.mono ?_; rintro e w1 ⟨rfl, rfl⟩; rw [next_nil]; simp only [ZT]))
    (try simp only [Exit.inBlock, Exit.then])
    have hx := HX.out
    refine bodyPost_ret (ret_token rfl (heap_alloc_new w _) rfl rfl) rfl ?_
    have hbz : Below w.heap.size w (w.alloc (.cells #[.int .i64 3, .string ⟨#[]⟩, .slice none 0 0, .int .i64 (n : Int)] 72)) := (Below.refl _ w).alloc (Nat.le_refl _) _
    have hr := HR0.out.below hbz
    exact ⟨zeroV, rfl, WordN.nil _ _, hr, Kept.of_below hbz⟩
  | cons c r =>
    have hgc := HR.out.good c (by simp)
    have hx0 : ((c : Int) == 0) = false := by
      have := hgc.1
      have : ¬ (c : Int) = 0 := by omega
      simpa using this
    clear hgc
    cases m with
    | some pr =>
      obtain ⟨p, r'⟩ := pr
      have HNE := Lib.hid (signM_ne signs _ _ _ (by decide) HM.out)
      obtain ⟨T, hT⟩ : ∃ T : ByteArray, txt (enc p) = .string T := ⟨_, rfl⟩
      have hTe : T.toList.isEmpty = false := by
        have e : (⟨(enc p).toArray⟩ : ByteArray) = T := by simpa [txt] using hT
        rw [← e, Lib.toList_data]
        have h1 := (enc_length p).1
        have h2 := List.length_pos_iff.2 HNE.out
        cases he : enc p with
        | nil =>
          rw [he] at h1
          have h3 : p.length ≤ 0 := h1
          omega
        | cons a b => rfl
      have HT := Lib.hid hT
      clear hT
      go_enter Tryz.func43, Tryz.ntmps43
      go_wp2_with (first
        | (go_at_call 42; refine HAT.out.mono ?_; rintro e w1 ⟨rfl, rfl⟩; simp only [ZT])
        | (go_at_call 72; refine HN.out.mono ?_; rintro e w1 ⟨rfl, rfl⟩; rw [next_cons]; simp only [ZT]))
      refine HSG.out.mono ?_
      rintro e w1 ⟨rfl, hs1⟩
      rw [HT.out]
      obtain ⟨v1, kw⟩ := HBASE.out w1 hs1.2
      obtain ⟨x0, x1, x2, x3⟩ := four_cells v1
      have g0 := four_free v1 0
      have g1 := four_free v1 1
      have g2 := four_free v1 2
      have g3 := four_free v1 3
      have HV := Lib.hid (And.intro v1 (And.intro kw hs1))
      clear v1 kw hs1
      go_wp2_with fail
      (try simp only [Exit.inBlock, Exit.then])
      obtain ⟨v1, kw, hs1⟩ := HV.out
      have hx := HX.out
      refine bodyPost_ret (ret_token rfl (four_put v1 _ _ _ _) rfl rfl) rfl ?_
      rw [tok_sign (by simp) HM.out]
      have hk := four_kept (D := fun k => k = w.heap.size) (Kept.refl _ w1) (.inl rfl) (.int .i64 2) (.string T) (.slice none 0 0) (.int .i64 (n : Int))
      exact ⟨zeroV, by rw [tokV, HT.out]; rfl, WordN.nil _ _, hs1.1.kept hk (by omega) (by omega), kw.trans hk (fun i e => .inr (by omega))⟩
    | none =>
      by_cases hc : c = 38
      · subst hc
        go_enter Tryz.func43, Tryz.ntmps43
        go_wp2_with (first
          | (go_at_call 42; refine HAT.out.mono ?_; rintro e w1 ⟨rfl, rfl⟩; simp only [ZT])
          | (go_at_call 72; refine HN.out.mono ?_; rintro e w1 ⟨rfl, rfl⟩; rw [next_cons]; simp only [ZT]))
        refine HSG.out.mono ?_
        rintro e w1 ⟨rfl, hs1⟩
        rw [show txt [] = .string ⟨#[]⟩ from rfl]
        obtain ⟨v1, kw⟩ := HBASE.out w1 hs1.2
        obtain ⟨x0, x1, x2, x3⟩ := four_cells v1
        have g0 := four_free v1 0
        have g1 := four_free v1 1
        have g2 := four_free v1 2
        have g3 := four_free v1 3
        have HV := Lib.hid (And.intro v1 (And.intro kw hs1))
        clear v1 kw hs1
        go_wp2_with (go_at_call 72; refine (next_any HV.out.2.2.1).mono ?_; rintro e w2 ⟨rfl, rfl⟩; rw [next_cons])
        (try simp only [Exit.inBlock, Exit.then])
        obtain ⟨v1, kw, hs1⟩ := HV.out
        have hx := HX.out
        refine bodyPost_ret (ret_token rfl (four_put v1 _ _ _ _) rfl rfl) rfl ?_
        rw [tok_amp (by simp) HM.out rfl]
        exact ⟨.inl rfl, rfl, kw.trans (four_kept (D := fun k => w.heap.size ≤ k) (Kept.refl _ _) (.inl (Nat.le_refl _)) _ _ _ _) (fun _ h => .inr h)⟩
      · have hx1 : ((c : Int) == 38) = false := by
          have : ¬ (c : Int) = 38 := by omega
          simpa using this
        obtain ⟨mp, hmp⟩ : ∃ mp, partsM 20 (c :: r) = mp := ⟨_, rfl⟩
        have HMP := Lib.hid hmp
        have HC := Lib.hid hc
        clear hmp hc
        rcases mp with cc | ⟨ps, r'⟩
        all_goals
          go_enter Tryz.func43, Tryz.ntmps43
          go_wp2_with (first
            | (go_at_call 42; refine HAT.out.mono ?_; rintro e w1 ⟨rfl, rfl⟩; simp only [ZT])
            | (go_at_call 72; refine HN.out.mono ?_; rintro e w1 ⟨rfl, rfl⟩; rw [next_cons]; simp only [ZT]))
          refine HSG.out.mono ?_
          rintro e w1 ⟨rfl, hs1⟩
          rw [show txt [] = .string ⟨#[]⟩ from rfl]
          obtain ⟨v1, kw⟩ := HBASE.out w1 hs1.2
          have HV := Lib.hid (And.intro v1 (And.intro kw hs1))
          clear v1 kw hs1
          go_wp2_with (go_at_call 72; refine (next_any HV.out.2.2.1).mono ?_; rintro e w2 ⟨rfl, rfl⟩; rw [next_cons])
          have hp := parts_all HV.out.2.2.1
          rw [HMP.out] at hp
          refine hp.mono ?_
          clear hp
        · rintro e w3 ⟨hcc, rfl, hk3⟩
          rw [show zeroV = .slice none 0 0 from rfl]
          have hx := HX.out
          have v3 := hk3.heap HV.out.1 (fun e => by omega)
          obtain ⟨x0, x1, x2, x3⟩ := four_cells v3
          have g0 := four_free v3 0
          have g1 := four_free v3 1
          have g2 := four_free v3 2
          have g3 := four_free v3 3
          have H3 := Lib.hid (And.intro v3 (And.intro hcc hk3))
          have hc0 : (((cc : Nat) : Int) != 0) = true := by rcases hcc with rfl | rfl <;> rfl
          clear v3 hcc hk3 hx
          go_wp2_with fail
          (try simp only [Exit.inBlock, Exit.then])
          refine bodyPost_ret (ret_token rfl (four_put H3.out.1 _ _ _ _) rfl rfl) rfl ?_
          rw [tok_word (by simp) HM.out HC.out, HMP.out]
          exact ⟨H3.out.2.1, rfl, (HV.out.2.1.on H3.out.2.2).trans (four_kept (D := fun k => w.heap.size ≤ k) (Kept.refl _ _) (.inl (Nat.le_refl _)) _ _ _ _) (fun _ h => .inr h)⟩
        · rintro e w3 ⟨v, rfl, hwn, hr3, hk3⟩
          obtain ⟨ad, cp, rfl⟩ := hwn.shape
          obtain ⟨np, hnp⟩ : ∃ np, ps.length = np := ⟨_, rfl⟩
          rw [hnp] at hwn ⊢
          have hx := HX.out
          have v3 := hk3.heap HV.out.1 (fun e => by omega)
          obtain ⟨x0, x1, x2, x3⟩ := four_cells v3
          have g0 := four_free v3 0
          have g1 := four_free v3 1
          have g2 := four_free v3 2
          have g3 := four_free v3 3
          have hlt : w.heap.size < w1.heap.size := (Array.getElem?_eq_some_iff.1 HV.out.1).1
          have H3 := Lib.hid (And.intro v3 (And.intro hwn (And.intro hr3 (And.intro hk3 hlt))))
          clear v3 hwn hr3 hk3 hx hlt hnp
          go_wp2_with fail
          (try simp only [Exit.inBlock, Exit.then])
          obtain ⟨v3, hwn, hr3, hk3, hlt⟩ := H3.out
          have hx := HX.out
          refine bodyPost_ret (ret_token rfl (four_put v3 _ _ _ _) rfl rfl) rfl ?_
          rw [tok_word (by simp) HM.out HC.out, HMP.out]
          have hk := four_kept (D := fun k => k = w.heap.size) (Kept.refl _ w3) (.inl rfl) (.int .i64 1) (.string ⟨#[]⟩) (.slice ad np cp) (.int .i64 (n : Int))
          exact ⟨.slice ad np cp, rfl, (hwn.kept hk (fun k hk e => by omega)).base (by omega), hr3.kept hk (by omega) (by omega), (HV.out.2.1.on hk3).trans hk (fun i e => .inr (by omega))⟩
end Go.Proofs.YtakceggnadagmaaGreatDoor

namespace Go.Proofs.YtakceggnadagmaaGreatDoor
open Go Go.RowKit GlyphMath LexMath







/-- Good letters' bytes are a text. -/
theorem enc_text : ∀ (l : List Nat), (∀ c ∈ l, GoodL c) → firstBad ⟨(enc l).toArray⟩ = none
  | [], _ => rfl
  | c :: r, h => by
    have hc := h c (by simp)
    have ih := enc_text r fun x hx => h x (List.mem_cons_of_mem _ hx)
    have e : (⟨(enc (c :: r)).toArray⟩ : ByteArray) = ⟨(eb c).toArray⟩ ++ ⟨(enc r).toArray⟩ := by rw [bytes_append]; rfl
    rw [e, firstBad_append _ _ (firstBad_eb hc), ih]
    rfl
theorem enc_isText {l : List Nat} (h : ∀ c ∈ l, GoodL c) : isText ⟨(enc l).toArray⟩ = true := by unfold isText; rw [enc_text l h]; rfl
end Go.Proofs.YtakceggnadagmaaGreatDoor
