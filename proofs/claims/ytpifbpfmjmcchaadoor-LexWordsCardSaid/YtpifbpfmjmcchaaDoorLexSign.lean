/-
  Proved: the contract of sign. Conditions: the reader lies in memory; the program's signs lie as they should.
-/
import Derived.Test.YtpifbpfmjmcchaaDoorLexPart
namespace Go.Proofs.YtpifbpfmjmcchaaDoor
open Go Go.RowKit GlyphMath LexMath

def signCells : List Value := [.string ⟨#[38, 38]⟩, .string ⟨#[124, 124]⟩, .string ⟨#[59, 59]⟩, .string ⟨#[62, 62]⟩, .string ⟨#[59]⟩, .string ⟨#[124]⟩, .string ⟨#[40]⟩, .string ⟨#[41]⟩, .string ⟨#[62]⟩, .string ⟨#[60]⟩, .string ⟨#[10]⟩]
/-- The program's signs lie as they should. -/
def Signs (w : World) : Prop := w.rangeAt 0 0 signCells
theorem Signs.kept {D : Nat → Prop} {w w' : World} (h : Signs w) (hk : Kept D w w') (hD : ¬ D 0) : Signs w' := fun j v hj => hk.cell (h j v hj) hD
theorem info_signs : (Tryd.prog.info? 86).map (·.size) = some signCells.length := by kernel_rfl

theorem sign_at0 (w : World) : (Instr.index 86 (.agg #[.string ⟨#[38, 38]⟩, .string ⟨#[124, 124]⟩, .string ⟨#[59, 59]⟩, .string ⟨#[62, 62]⟩, .string ⟨#[59]⟩, .string ⟨#[124]⟩, .string ⟨#[40]⟩, .string ⟨#[41]⟩, .string ⟨#[62]⟩, .string ⟨#[60]⟩, .string ⟨#[10]⟩]) (.int .i64 0)).run Tryd.prog w = .ok (.string ⟨#[38, 38]⟩) w := by kernel_rfl
theorem sign_at1 (w : World) : (Instr.index 86 (.agg #[.string ⟨#[38, 38]⟩, .string ⟨#[124, 124]⟩, .string ⟨#[59, 59]⟩, .string ⟨#[62, 62]⟩, .string ⟨#[59]⟩, .string ⟨#[124]⟩, .string ⟨#[40]⟩, .string ⟨#[41]⟩, .string ⟨#[62]⟩, .string ⟨#[60]⟩, .string ⟨#[10]⟩]) (.int .i64 1)).run Tryd.prog w = .ok (.string ⟨#[124, 124]⟩) w := by kernel_rfl
theorem sign_at2 (w : World) : (Instr.index 86 (.agg #[.string ⟨#[38, 38]⟩, .string ⟨#[124, 124]⟩, .string ⟨#[59, 59]⟩, .string ⟨#[62, 62]⟩, .string ⟨#[59]⟩, .string ⟨#[124]⟩, .string ⟨#[40]⟩, .string ⟨#[41]⟩, .string ⟨#[62]⟩, .string ⟨#[60]⟩, .string ⟨#[10]⟩]) (.int .i64 2)).run Tryd.prog w = .ok (.string ⟨#[59, 59]⟩) w := by kernel_rfl
theorem sign_at3 (w : World) : (Instr.index 86 (.agg #[.string ⟨#[38, 38]⟩, .string ⟨#[124, 124]⟩, .string ⟨#[59, 59]⟩, .string ⟨#[62, 62]⟩, .string ⟨#[59]⟩, .string ⟨#[124]⟩, .string ⟨#[40]⟩, .string ⟨#[41]⟩, .string ⟨#[62]⟩, .string ⟨#[60]⟩, .string ⟨#[10]⟩]) (.int .i64 3)).run Tryd.prog w = .ok (.string ⟨#[62, 62]⟩) w := by kernel_rfl
theorem sign_at4 (w : World) : (Instr.index 86 (.agg #[.string ⟨#[38, 38]⟩, .string ⟨#[124, 124]⟩, .string ⟨#[59, 59]⟩, .string ⟨#[62, 62]⟩, .string ⟨#[59]⟩, .string ⟨#[124]⟩, .string ⟨#[40]⟩, .string ⟨#[41]⟩, .string ⟨#[62]⟩, .string ⟨#[60]⟩, .string ⟨#[10]⟩]) (.int .i64 4)).run Tryd.prog w = .ok (.string ⟨#[59]⟩) w := by kernel_rfl
theorem sign_at5 (w : World) : (Instr.index 86 (.agg #[.string ⟨#[38, 38]⟩, .string ⟨#[124, 124]⟩, .string ⟨#[59, 59]⟩, .string ⟨#[62, 62]⟩, .string ⟨#[59]⟩, .string ⟨#[124]⟩, .string ⟨#[40]⟩, .string ⟨#[41]⟩, .string ⟨#[62]⟩, .string ⟨#[60]⟩, .string ⟨#[10]⟩]) (.int .i64 5)).run Tryd.prog w = .ok (.string ⟨#[124]⟩) w := by kernel_rfl
theorem sign_at6 (w : World) : (Instr.index 86 (.agg #[.string ⟨#[38, 38]⟩, .string ⟨#[124, 124]⟩, .string ⟨#[59, 59]⟩, .string ⟨#[62, 62]⟩, .string ⟨#[59]⟩, .string ⟨#[124]⟩, .string ⟨#[40]⟩, .string ⟨#[41]⟩, .string ⟨#[62]⟩, .string ⟨#[60]⟩, .string ⟨#[10]⟩]) (.int .i64 6)).run Tryd.prog w = .ok (.string ⟨#[40]⟩) w := by kernel_rfl
theorem sign_at7 (w : World) : (Instr.index 86 (.agg #[.string ⟨#[38, 38]⟩, .string ⟨#[124, 124]⟩, .string ⟨#[59, 59]⟩, .string ⟨#[62, 62]⟩, .string ⟨#[59]⟩, .string ⟨#[124]⟩, .string ⟨#[40]⟩, .string ⟨#[41]⟩, .string ⟨#[62]⟩, .string ⟨#[60]⟩, .string ⟨#[10]⟩]) (.int .i64 7)).run Tryd.prog w = .ok (.string ⟨#[41]⟩) w := by kernel_rfl
theorem sign_at8 (w : World) : (Instr.index 86 (.agg #[.string ⟨#[38, 38]⟩, .string ⟨#[124, 124]⟩, .string ⟨#[59, 59]⟩, .string ⟨#[62, 62]⟩, .string ⟨#[59]⟩, .string ⟨#[124]⟩, .string ⟨#[40]⟩, .string ⟨#[41]⟩, .string ⟨#[62]⟩, .string ⟨#[60]⟩, .string ⟨#[10]⟩]) (.int .i64 8)).run Tryd.prog w = .ok (.string ⟨#[62]⟩) w := by kernel_rfl
theorem sign_at9 (w : World) : (Instr.index 86 (.agg #[.string ⟨#[38, 38]⟩, .string ⟨#[124, 124]⟩, .string ⟨#[59, 59]⟩, .string ⟨#[62, 62]⟩, .string ⟨#[59]⟩, .string ⟨#[124]⟩, .string ⟨#[40]⟩, .string ⟨#[41]⟩, .string ⟨#[62]⟩, .string ⟨#[60]⟩, .string ⟨#[10]⟩]) (.int .i64 9)).run Tryd.prog w = .ok (.string ⟨#[60]⟩) w := by kernel_rfl
theorem sign_at10 (w : World) : (Instr.index 86 (.agg #[.string ⟨#[38, 38]⟩, .string ⟨#[124, 124]⟩, .string ⟨#[59, 59]⟩, .string ⟨#[62, 62]⟩, .string ⟨#[59]⟩, .string ⟨#[124]⟩, .string ⟨#[40]⟩, .string ⟨#[41]⟩, .string ⟨#[62]⟩, .string ⟨#[60]⟩, .string ⟨#[10]⟩]) (.int .i64 10)).run Tryd.prog w = .ok (.string ⟨#[10]⟩) w := by kernel_rfl

/-- What sign answers. -/
def SignEnd (w w' : World) (e : Ending) (X G sz : Nat) (xs : List Nat) (m : Option (List Nat × List Nat)) : Prop :=
  match m with
  | some (p, r) => e = .returned (txt (enc p)) ∧ RStep w w' X G sz r
  | none => e = .returned (txt []) ∧ RStep w w' X G sz xs

/-- What sign is doing. -/
structure SgAt (w wr : World) (X G sz : Nat) (xs : List Nat) (M : Option (List Nat × List Nat)) (k : Nat) : Prop where
  step : RStep w wr X G sz xs
  said : signM (signs.drop k) xs = M
theorem signM_some {p : List Nat} {l : List (List Nat)} {xs r : List Nat} (h : takes p xs = some r) : signM (p :: l) xs = some (p, r) := by rw [signM, h]
theorem signM_none {p : List Nat} {l : List (List Nat)} {xs : List Nat} (h : takes p xs = none) : signM (p :: l) xs = signM l xs := by rw [signM, h]

set_option maxHeartbeats 4000000 in
set_option maxRecDepth 100000 in
theorem sign_any {w : World} {X G sz : Nat} {xs : List Nat} (h : Rd w X G sz xs) (hS : Signs w) :
    Calls Tryd.prog 28 #[.pointer (some ⟨X, 0, none⟩)] w fun e w' => SignEnd w w' e X G sz xs (signM signs xs) := by
  have HR := Lib.hid h
  have HS := Lib.hid hS
  obtain ⟨M, hM⟩ : ∃ M, signM signs xs = M := ⟨_, rfl⟩
  rw [hM]
  have HM := Lib.hid hM
  clear h hS hM
  go_enter Tryd.func28, Tryd.ntmps28
  go_wp2_with (refine wpList_load_mid (by rfl) 86 (.global 0) (by rfl) 0 0 (by rfl) signCells _ HS.out Tryd.underlying86 (by rfl) info_signs ?_; rw [show (Value.agg signCells.toArray) = Value.agg #[.string ⟨#[38, 38]⟩, .string ⟨#[124, 124]⟩, .string ⟨#[59, 59]⟩, .string ⟨#[62, 62]⟩, .string ⟨#[59]⟩, .string ⟨#[124]⟩, .string ⟨#[40]⟩, .string ⟨#[41]⟩, .string ⟨#[62]⟩, .string ⟨#[60]⟩, .string ⟨#[10]⟩] from rfl])
  go_loopw [6] (fun i wr => ∃ k : Nat, i = .int .i64 (k : Int) ∧ k ≤ 11 ∧ SgAt w wr X G sz xs M k) (fun i _ => 11 - (intOf i).toNat)
  case atStart => exact ⟨0, rfl, by omega, RStep.refl HR.out, HM.out⟩
  case round =>
    obtain ⟨k, rfl, hk, hA⟩ := hrel
    have HA := Lib.hid hA
    clear hA
    rcases Nat.lt_or_ge k 11 with hlt | hge
    · have hcases : k = 0 ∨ k = 1 ∨ k = 2 ∨ k = 3 ∨ k = 4 ∨ k = 5 ∨ k = 6 ∨ k = 7 ∨ k = 8 ∨ k = 9 ∨ k = 10 := by omega
      clear hk hlt
      rcases hcases with rfl | rfl | rfl | rfl | rfl | rfl | rfl | rfl | rfl | rfl | rfl
      · have ix := sign_at0
        obtain ⟨mt, hmt⟩ : ∃ mt, takes [38, 38] xs = mt := ⟨_, rfl⟩
        have HMT := Lib.hid hmt
        clear hmt
        cases mt with
        | some r =>
          go_wp2_with (go_at_call 42; refine (takesM HA.out.step.1 ⟨#[38, 38]⟩ [38, 38] rfl (by decide) HMT.out).mono ?_; rintro e w2 ⟨rfl, hs⟩; simp only [Option.getD_some] at hs; have HS2 := Lib.hid hs; clear hs)
          go_ret
          rw [show M = some ([38, 38], r) from HA.out.said.symm.trans (signM_some HMT.out)]
          exact ⟨rfl, HA.out.step.trans HS2.out⟩
        | none =>
          go_wp2_with (go_at_call 42; refine (takesM HA.out.step.1 ⟨#[38, 38]⟩ [38, 38] rfl (by decide) HMT.out).mono ?_; rintro e w2 ⟨rfl, hs⟩; simp only [Option.getD_none] at hs; have HS2 := Lib.hid hs; clear hs)
          go_roundw
          case rel => exact ⟨1, rfl, by omega, HA.out.step.trans HS2.out, (signM_none HMT.out).symm.trans HA.out.said⟩
          case measure => decide
      · have ix := sign_at1
        obtain ⟨mt, hmt⟩ : ∃ mt, takes [124, 124] xs = mt := ⟨_, rfl⟩
        have HMT := Lib.hid hmt
        clear hmt
        cases mt with
        | some r =>
          go_wp2_with (go_at_call 42; refine (takesM HA.out.step.1 ⟨#[124, 124]⟩ [124, 124] rfl (by decide) HMT.out).mono ?_; rintro e w2 ⟨rfl, hs⟩; simp only [Option.getD_some] at hs; have HS2 := Lib.hid hs; clear hs)
          go_ret
          rw [show M = some ([124, 124], r) from HA.out.said.symm.trans (signM_some HMT.out)]
          exact ⟨rfl, HA.out.step.trans HS2.out⟩
        | none =>
          go_wp2_with (go_at_call 42; refine (takesM HA.out.step.1 ⟨#[124, 124]⟩ [124, 124] rfl (by decide) HMT.out).mono ?_; rintro e w2 ⟨rfl, hs⟩; simp only [Option.getD_none] at hs; have HS2 := Lib.hid hs; clear hs)
          go_roundw
          case rel => exact ⟨2, rfl, by omega, HA.out.step.trans HS2.out, (signM_none HMT.out).symm.trans HA.out.said⟩
          case measure => decide
      · have ix := sign_at2
        obtain ⟨mt, hmt⟩ : ∃ mt, takes [59, 59] xs = mt := ⟨_, rfl⟩
        have HMT := Lib.hid hmt
        clear hmt
        cases mt with
        | some r =>
          go_wp2_with (go_at_call 42; refine (takesM HA.out.step.1 ⟨#[59, 59]⟩ [59, 59] rfl (by decide) HMT.out).mono ?_; rintro e w2 ⟨rfl, hs⟩; simp only [Option.getD_some] at hs; have HS2 := Lib.hid hs; clear hs)
          go_ret
          rw [show M = some ([59, 59], r) from HA.out.said.symm.trans (signM_some HMT.out)]
          exact ⟨rfl, HA.out.step.trans HS2.out⟩
        | none =>
          go_wp2_with (go_at_call 42; refine (takesM HA.out.step.1 ⟨#[59, 59]⟩ [59, 59] rfl (by decide) HMT.out).mono ?_; rintro e w2 ⟨rfl, hs⟩; simp only [Option.getD_none] at hs; have HS2 := Lib.hid hs; clear hs)
          go_roundw
          case rel => exact ⟨3, rfl, by omega, HA.out.step.trans HS2.out, (signM_none HMT.out).symm.trans HA.out.said⟩
          case measure => decide
      · have ix := sign_at3
        obtain ⟨mt, hmt⟩ : ∃ mt, takes [62, 62] xs = mt := ⟨_, rfl⟩
        have HMT := Lib.hid hmt
        clear hmt
        cases mt with
        | some r =>
          go_wp2_with (go_at_call 42; refine (takesM HA.out.step.1 ⟨#[62, 62]⟩ [62, 62] rfl (by decide) HMT.out).mono ?_; rintro e w2 ⟨rfl, hs⟩; simp only [Option.getD_some] at hs; have HS2 := Lib.hid hs; clear hs)
          go_ret
          rw [show M = some ([62, 62], r) from HA.out.said.symm.trans (signM_some HMT.out)]
          exact ⟨rfl, HA.out.step.trans HS2.out⟩
        | none =>
          go_wp2_with (go_at_call 42; refine (takesM HA.out.step.1 ⟨#[62, 62]⟩ [62, 62] rfl (by decide) HMT.out).mono ?_; rintro e w2 ⟨rfl, hs⟩; simp only [Option.getD_none] at hs; have HS2 := Lib.hid hs; clear hs)
          go_roundw
          case rel => exact ⟨4, rfl, by omega, HA.out.step.trans HS2.out, (signM_none HMT.out).symm.trans HA.out.said⟩
          case measure => decide
      · have ix := sign_at4
        obtain ⟨mt, hmt⟩ : ∃ mt, takes [59] xs = mt := ⟨_, rfl⟩
        have HMT := Lib.hid hmt
        clear hmt
        cases mt with
        | some r =>
          go_wp2_with (go_at_call 42; refine (takesM HA.out.step.1 ⟨#[59]⟩ [59] rfl (by decide) HMT.out).mono ?_; rintro e w2 ⟨rfl, hs⟩; simp only [Option.getD_some] at hs; have HS2 := Lib.hid hs; clear hs)
          go_ret
          rw [show M = some ([59], r) from HA.out.said.symm.trans (signM_some HMT.out)]
          exact ⟨rfl, HA.out.step.trans HS2.out⟩
        | none =>
          go_wp2_with (go_at_call 42; refine (takesM HA.out.step.1 ⟨#[59]⟩ [59] rfl (by decide) HMT.out).mono ?_; rintro e w2 ⟨rfl, hs⟩; simp only [Option.getD_none] at hs; have HS2 := Lib.hid hs; clear hs)
          go_roundw
          case rel => exact ⟨5, rfl, by omega, HA.out.step.trans HS2.out, (signM_none HMT.out).symm.trans HA.out.said⟩
          case measure => decide
      · have ix := sign_at5
        obtain ⟨mt, hmt⟩ : ∃ mt, takes [124] xs = mt := ⟨_, rfl⟩
        have HMT := Lib.hid hmt
        clear hmt
        cases mt with
        | some r =>
          go_wp2_with (go_at_call 42; refine (takesM HA.out.step.1 ⟨#[124]⟩ [124] rfl (by decide) HMT.out).mono ?_; rintro e w2 ⟨rfl, hs⟩; simp only [Option.getD_some] at hs; have HS2 := Lib.hid hs; clear hs)
          go_ret
          rw [show M = some ([124], r) from HA.out.said.symm.trans (signM_some HMT.out)]
          exact ⟨rfl, HA.out.step.trans HS2.out⟩
        | none =>
          go_wp2_with (go_at_call 42; refine (takesM HA.out.step.1 ⟨#[124]⟩ [124] rfl (by decide) HMT.out).mono ?_; rintro e w2 ⟨rfl, hs⟩; simp only [Option.getD_none] at hs; have HS2 := Lib.hid hs; clear hs)
          go_roundw
          case rel => exact ⟨6, rfl, by omega, HA.out.step.trans HS2.out, (signM_none HMT.out).symm.trans HA.out.said⟩
          case measure => decide
      · have ix := sign_at6
        obtain ⟨mt, hmt⟩ : ∃ mt, takes [40] xs = mt := ⟨_, rfl⟩
        have HMT := Lib.hid hmt
        clear hmt
        cases mt with
        | some r =>
          go_wp2_with (go_at_call 42; refine (takesM HA.out.step.1 ⟨#[40]⟩ [40] rfl (by decide) HMT.out).mono ?_; rintro e w2 ⟨rfl, hs⟩; simp only [Option.getD_some] at hs; have HS2 := Lib.hid hs; clear hs)
          go_ret
          rw [show M = some ([40], r) from HA.out.said.symm.trans (signM_some HMT.out)]
          exact ⟨rfl, HA.out.step.trans HS2.out⟩
        | none =>
          go_wp2_with (go_at_call 42; refine (takesM HA.out.step.1 ⟨#[40]⟩ [40] rfl (by decide) HMT.out).mono ?_; rintro e w2 ⟨rfl, hs⟩; simp only [Option.getD_none] at hs; have HS2 := Lib.hid hs; clear hs)
          go_roundw
          case rel => exact ⟨7, rfl, by omega, HA.out.step.trans HS2.out, (signM_none HMT.out).symm.trans HA.out.said⟩
          case measure => decide
      · have ix := sign_at7
        obtain ⟨mt, hmt⟩ : ∃ mt, takes [41] xs = mt := ⟨_, rfl⟩
        have HMT := Lib.hid hmt
        clear hmt
        cases mt with
        | some r =>
          go_wp2_with (go_at_call 42; refine (takesM HA.out.step.1 ⟨#[41]⟩ [41] rfl (by decide) HMT.out).mono ?_; rintro e w2 ⟨rfl, hs⟩; simp only [Option.getD_some] at hs; have HS2 := Lib.hid hs; clear hs)
          go_ret
          rw [show M = some ([41], r) from HA.out.said.symm.trans (signM_some HMT.out)]
          exact ⟨rfl, HA.out.step.trans HS2.out⟩
        | none =>
          go_wp2_with (go_at_call 42; refine (takesM HA.out.step.1 ⟨#[41]⟩ [41] rfl (by decide) HMT.out).mono ?_; rintro e w2 ⟨rfl, hs⟩; simp only [Option.getD_none] at hs; have HS2 := Lib.hid hs; clear hs)
          go_roundw
          case rel => exact ⟨8, rfl, by omega, HA.out.step.trans HS2.out, (signM_none HMT.out).symm.trans HA.out.said⟩
          case measure => decide
      · have ix := sign_at8
        obtain ⟨mt, hmt⟩ : ∃ mt, takes [62] xs = mt := ⟨_, rfl⟩
        have HMT := Lib.hid hmt
        clear hmt
        cases mt with
        | some r =>
          go_wp2_with (go_at_call 42; refine (takesM HA.out.step.1 ⟨#[62]⟩ [62] rfl (by decide) HMT.out).mono ?_; rintro e w2 ⟨rfl, hs⟩; simp only [Option.getD_some] at hs; have HS2 := Lib.hid hs; clear hs)
          go_ret
          rw [show M = some ([62], r) from HA.out.said.symm.trans (signM_some HMT.out)]
          exact ⟨rfl, HA.out.step.trans HS2.out⟩
        | none =>
          go_wp2_with (go_at_call 42; refine (takesM HA.out.step.1 ⟨#[62]⟩ [62] rfl (by decide) HMT.out).mono ?_; rintro e w2 ⟨rfl, hs⟩; simp only [Option.getD_none] at hs; have HS2 := Lib.hid hs; clear hs)
          go_roundw
          case rel => exact ⟨9, rfl, by omega, HA.out.step.trans HS2.out, (signM_none HMT.out).symm.trans HA.out.said⟩
          case measure => decide
      · have ix := sign_at9
        obtain ⟨mt, hmt⟩ : ∃ mt, takes [60] xs = mt := ⟨_, rfl⟩
        have HMT := Lib.hid hmt
        clear hmt
        cases mt with
        | some r =>
          go_wp2_with (go_at_call 42; refine (takesM HA.out.step.1 ⟨#[60]⟩ [60] rfl (by decide) HMT.out).mono ?_; rintro e w2 ⟨rfl, hs⟩; simp only [Option.getD_some] at hs; have HS2 := Lib.hid hs; clear hs)
          go_ret
          rw [show M = some ([60], r) from HA.out.said.symm.trans (signM_some HMT.out)]
          exact ⟨rfl, HA.out.step.trans HS2.out⟩
        | none =>
          go_wp2_with (go_at_call 42; refine (takesM HA.out.step.1 ⟨#[60]⟩ [60] rfl (by decide) HMT.out).mono ?_; rintro e w2 ⟨rfl, hs⟩; simp only [Option.getD_none] at hs; have HS2 := Lib.hid hs; clear hs)
          go_roundw
          case rel => exact ⟨10, rfl, by omega, HA.out.step.trans HS2.out, (signM_none HMT.out).symm.trans HA.out.said⟩
          case measure => decide
      · have ix := sign_at10
        obtain ⟨mt, hmt⟩ : ∃ mt, takes [10] xs = mt := ⟨_, rfl⟩
        have HMT := Lib.hid hmt
        clear hmt
        cases mt with
        | some r =>
          go_wp2_with (go_at_call 42; refine (takesM HA.out.step.1 ⟨#[10]⟩ [10] rfl (by decide) HMT.out).mono ?_; rintro e w2 ⟨rfl, hs⟩; simp only [Option.getD_some] at hs; have HS2 := Lib.hid hs; clear hs)
          go_ret
          rw [show M = some ([10], r) from HA.out.said.symm.trans (signM_some HMT.out)]
          exact ⟨rfl, HA.out.step.trans HS2.out⟩
        | none =>
          go_wp2_with (go_at_call 42; refine (takesM HA.out.step.1 ⟨#[10]⟩ [10] rfl (by decide) HMT.out).mono ?_; rintro e w2 ⟨rfl, hs⟩; simp only [Option.getD_none] at hs; have HS2 := Lib.hid hs; clear hs)
          go_roundw
          case rel => exact ⟨11, rfl, by omega, HA.out.step.trans HS2.out, (signM_none HMT.out).symm.trans HA.out.said⟩
          case measure => decide
    · obtain rfl : k = 11 := by omega
      clear hk hge
      go_wp2_with fail
      go_ret
      have := HA.out.said
      rw [← this]
      exact ⟨rfl, HA.out.step⟩
end Go.Proofs.YtpifbpfmjmcchaaDoor
