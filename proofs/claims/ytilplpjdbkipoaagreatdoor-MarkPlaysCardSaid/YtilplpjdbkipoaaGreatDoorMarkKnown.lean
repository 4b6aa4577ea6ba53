/-
  Proved: the laws' own check of the chapter's example answers true. Conditions: the library's table and its two sentinel errors read as laid.
-/
import Derived.Test.YtilplpjdbkipoaaGreatDoorMarkRead
import Derived.Lib.SlBytesConst
namespace Go.Proofs.YtilplpjdbkipoaaGreatDoor
open Go Go.RowKit NetMath NetMem MarkMath SpanMath

def exL : List UInt8 := [51, 59, 48, 59, 48, 59, 48, 59]
def exM : Mk := ⟨0, 3, false, 0, noB⟩
theorem ex_raw : exM.raw = exL := by
  show numB 3 ++ (numB (doneN false) ++ (numB 0 ++ textB [])) = exL
  rw [show (3 : Int) = ((3 : Nat) : Int) from rfl, numB_small 3 (by omega), show doneN false = ((0 : Nat) : Int) from rfl, numB_small 0 (by omega), show (0 : Int) = ((0 : Nat) : Int) from rfl, numB_small 0 (by omega)]
  unfold textB
  rw [show (([] : List UInt8).length : Int) = ((0 : Nat) : Int) from rfl, numB_small 0 (by omega)]
  rfl
theorem ex_is : exM.is = true := by decide
theorem ex_read : readB exL = true ∧ readV exL = exM := by
  have h := read_raw exM ex_is ⟨by decide, by decide⟩ (by decide)
  rw [ex_raw] at h
  unfold markRead at h
  have hb : readB exL = true := by
    cases e : readB exL with
    | true => rfl
    | false => rw [e] at h; cases h
  rw [hb, if_pos rfl] at h
  refine ⟨hb, ?_⟩
  unfold readV
  rw [if_pos hb]
  exact Option.some.inj h
theorem ex_text : (⟨exL.toArray⟩ : ByteArray) = ⟨#[51, 59, 48, 59, 48, 59, 48, 59]⟩ := rfl

set_option maxHeartbeats 2000000 in
set_option maxRecDepth 100000 in
theorem known_any (w : World) (hg : NetP.Glob w) :
    Calls Tryz.prog 16 #[] w fun e w' => e = .returned (.bool true) ∧ Below w.heap.size w w' := by
  have kc := fun (w : World) (C : Array Value) (n c : Nat) => Lib.run_convert_bytes_const (P := Tryz.prog) w 56 5 C n c Tryz.underlying56 Tryz.underlying5
  obtain ⟨W1, hW1⟩ : ∃ W1, W1 = w.alloc (.cells #[.int .u8 51, .int .u8 59, .int .u8 48, .int .u8 59, .int .u8 48, .int .u8 59, .int .u8 48, .int .u8 59] 5 (8, 9)) := ⟨_, rfl⟩
  have hb1 : Below w.heap.size w W1 := by rw [hW1]; exact (Below.refl _ _).alloc (Nat.le_refl _) _
  have hrow : Row W1 (.slice (some ⟨w.heap.size, 0, none⟩) 8 8) exL := by rw [hW1]; exact Row.lit w 5 exL _ (8, 9) rfl 8 rfl (by omega)
  have HR := Lib.hid (read_any (some ⟨w.heap.size, 0, none⟩) 8 exL (by decide) W1 hrow (hg.below hb1))
  have HB := Lib.hid (fun W hW => bytes_q exM ⟨by decide, by decide⟩ (by decide) W hW)
  rw [show exM.bytes = exL by unfold Mk.bytes; rw [ex_is, if_pos rfl, ex_raw]] at HB
  rw [ex_read.1, ex_read.2] at HR
  have H1 := Lib.hid (And.intro hb1 hg)
  rw [hW1] at HR H1
  have HR : RowKit.Hid (Calls Tryz.prog 38 #[.slice (some ⟨w.heap.size, 0, none⟩) 8 8] (w.alloc (.cells #[.int .u8 51, .int .u8 59, .int .u8 48, .int .u8 59, .int .u8 48, .int .u8 59, .int .u8 48, .int .u8 59] 5 (8, 9))) fun e w' => e = .returned (.tuple #[.agg #[.int .i64 0, .int .i64 3, .bool false, .int .i64 0, .string ⟨#[]⟩], .bool true]) ∧ Below (w.alloc (.cells #[.int .u8 51, .int .u8 59, .int .u8 48, .int .u8 59, .int .u8 48, .int .u8 59, .int .u8 48, .int .u8 59] 5 (8, 9))).heap.size (w.alloc (.cells #[.int .u8 51, .int .u8 59, .int .u8 48, .int .u8 59, .int .u8 48, .int .u8 59, .int .u8 48, .int .u8 59] 5 (8, 9))) w') := Lib.hid HR.out
  clear hb1 hg hrow hW1 W1
  go_enter Tryz.func16, Tryz.ntmps16
  go_wp2_with fail
  refine HR.out.mono ?_
  rintro e w2 ⟨rfl, hb2⟩
  have hb02 := H1.out.1.trans (hb2.mono H1.out.1.size)
  have ha2 : Below w2.heap.size w2 (w2.alloc (.cells #[.int .i64 0, .int .i64 3, .bool false, .int .i64 0, .string ⟨#[]⟩] 35)) := (Below.refl _ _).alloc (Nat.le_refl _) _
  have H2 := Lib.hid (show Below w.heap.size w (w2.alloc (.cells #[.int .i64 0, .int .i64 3, .bool false, .int .i64 0, .string ⟨#[]⟩] 35)) ∧ NetP.Glob (w2.alloc (.cells #[.int .i64 0, .int .i64 3, .bool false, .int .i64 0, .string ⟨#[]⟩] 35)) from
    ⟨hb02.trans (ha2.mono hb02.size), H1.out.2.below (hb02.trans (ha2.mono hb02.size))⟩)
  clear hb2 hb02 ha2
  go_wp2_with fail
  refine (HB.out _ H2.out.2).mono ?_
  rintro e w3 ⟨p3, c3, rfl, ho3, hb3⟩
  have hcv := conv_any ho3.row
  rw [ex_text] at hcv
  obtain ⟨c0, c1, c2, c3', c4⟩ := five_cells ((hb3.block _ (by simp)).trans (heap_alloc_new w2 _))
  have H3 := Lib.hid (H2.out.1.trans (hb3.mono H2.out.1.size))
  clear hb3 ho3
  go_wp2_with fail
  go_ret
  exact ⟨rfl, H3.out⟩
end Go.Proofs.YtilplpjdbkipoaaGreatDoor
