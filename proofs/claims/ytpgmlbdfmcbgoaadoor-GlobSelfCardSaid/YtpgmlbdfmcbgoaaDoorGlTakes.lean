/-
  Proved: a slice of a pattern as the machine makes it; contract of takes. Conditions: the items lie in memory.
-/
import Derived.Test.YtpgmlbdfmcbgoaaDoorGlItem
namespace Go.Proofs.YtpgmlbdfmcbgoaaDoor
open Go Go.RowKit GlyphMath GlMath

def lenV : Value → Nat
  | .slice _ n _ => n
  | _ => 0
theorem run_from {N k : Nat} (p : Option Addr) (c : Nat) (K : Int) (hK : K = (k : Int)) (hk : k ≤ N) (W : World) : (Instr.slice 22 (.slice p N c) (some (.int .i64 K)) none none).run Tryd.prog W = .ok (sliced p k N c 2) W := by
  subst hK
  rw [run_slice_l W 22 p N c rfl .i64 (k : Int) (by omega) (by omega), Int.toNat_natCast]
  rfl
theorem run_upto {k c : Nat} (p : Option Addr) (N : Nat) (K : Int) (hK : K = (k : Int)) (hk : k ≤ c) (W : World) : (Instr.slice 22 (.slice p N c) none (some (.int .i64 K)) none).run Tryd.prog W = .ok (sliced p 0 k c 2) W := by
  subst hK
  rw [run_slice_h W 22 p N c rfl .i64 (k : Int) (by omega) (by omega), Int.toNat_natCast]
  rfl
theorem sliced_is (p : Option Addr) (l h m s : Nat) : ∃ q, sliced p l h m s = .slice q (h - l) (m - l) := ⟨_, rfl⟩

/-- A piece's own cells. -/
def pcC (many neg : Bool) (v : Value) : Obj := .cells #[.bool many, .bool neg, v] 55
/-- Is it one of what is left? -/
def RelT (X : Nat) (w1 : World) (r : Int) (F : Bool) (v : Value) (wr : World) : Prop :=
  ∃ f l, ChAt wr v l ∧ l.length ≤ f ∧ foundM f l r = F ∧ X < w1.heap.size ∧ Below w1.heap.size w1 wr

set_option maxHeartbeats 1000000 in
theorem takes_any (many neg : Bool) (items : List Ch) (v : Value) (r : Int) (w : World) (h : ChAt w v items) :
    Calls Tryd.prog 24 #[.agg #[.bool many, .bool neg, v], .int .i32 r] w fun e w' => e = .returned (.bool (takesM ⟨many, neg, items⟩ r)) ∧ Below w.heap.size w w' := by
  obtain ⟨F, hF⟩ : ∃ F, foundM items.length items r = F := ⟨_, rfl⟩
  have hR : takesM ⟨many, neg, items⟩ r = (F != neg) := by rw [← hF]; rfl
  rw [hR]
  obtain ⟨W1, hW1⟩ : ∃ W1, w.alloc (.cells #[.bool many, .bool neg, v] 55) = W1 := ⟨_, rfl⟩
  have hb : Below w.heap.size w W1 := by rw [← hW1]; exact (Below.refl _ w).alloc (Nat.le_refl _) _
  have hblk : W1.heap[w.heap.size]? = some (.cells #[.bool many, .bool neg, v] 55) := by rw [← hW1]; exact heap_alloc_new w _
  have hXlt : w.heap.size < W1.heap.size := by rw [← hW1]; simp
  have HW := Lib.hid hW1
  have HB := Lib.hid hb
  have HK := Lib.hid hblk
  have HA := Lib.hid (h.below hb)
  have HF := Lib.hid hF
  have c2 : W1.cell? ⟨w.heap.size, 2, none⟩ = some v := cell_of_row W1 _ 2 _ _ _ hblk
  obtain ⟨p, c, rfl, -⟩ := h.is
  have HX := Lib.hid hXlt
  clear hb hblk h hF hR hXlt
  go_enter Tryd.func24, Tryd.ntmps24
  go_wp2_with (rw [hW1]; clear hW1)
  go_loopw [5] (fun v wr => RelT w.heap.size W1 r F v wr) (fun v _ => lenV v)
  case atStart => exact ⟨_, _, HA.out, Nat.le_refl _, HF.out, HX.out, Below.refl _ _⟩
  case round =>
    obtain ⟨f, l, hat, hf, hfo, -, hbr⟩ := hrel
    have HBR := Lib.hid hbr
    have HAT := Lib.hid hat
    have HXr := Lib.hid (Nat.lt_of_lt_of_le HX.out hbr.size)
    have hkr := (hbr.block _ HX.out).trans HK.out
    have c1 : wr.cell? ⟨w.heap.size, 1, none⟩ = some (.bool neg) := cell_of_row wr _ 1 _ _ _ hkr
    obtain ⟨p, c, rfl, hlc, hcm, -⟩ := hat.is
    cases l with
    | nil =>
      have hFF : F = false := by rw [← hfo]; cases f <;> rfl
      subst hFF
      clear hat hfo hkr hlc hcm hbr hf c2
      go_wp2_with fail
      go_ret
      exact ⟨ret_bool (by simp), HB.out.trans (HBR.out.mono HB.out.size)⟩
    | cons a l =>
      cases f with
      | zero => simp at hf
      | succ f =>
      have hI := item_any a l _ wr hat
      obtain ⟨fr, to_, sz, hit⟩ : ∃ fr to_ sz, itemM (a :: l) = (fr, to_, sz) := ⟨_, _, _, rfl⟩
      have hsz := item_size (a :: l) (by simp)
      have hfo' : (if fr ≤ r ∧ r ≤ to_ then true else foundM f ((a :: l).drop sz) r) = F := by rw [← hfo]; show _ = (if (itemM (a :: l)).1 ≤ r ∧ r ≤ (itemM (a :: l)).2.1 then true else _); rw [hit]
      rw [hit] at hI hsz
      have HSZ := Lib.hid hsz
      have HFO := Lib.hid hfo'
      have HCM := Lib.hid hcm
      have HLF := Lib.hid hf
      obtain ⟨N, hN⟩ : ∃ N, (a :: l).length = N := ⟨_, rfl⟩
      have HN := Lib.hid hN
      rw [hN] at hI
      have HI := Lib.hid hI
      have hN0 : (0 : Int) < (N : Int) := by rw [← hN, List.length_cons]; omega
      obtain ⟨q, hq⟩ := sliced_is p sz N c 2
      have hsl : ∀ W, (Instr.slice 22 (.slice p N c) (some (.int .i64 (sz : Int))) none none).run Tryd.prog W = .ok (.slice q (N - sz) (c - sz)) W := fun W => by rw [← hq]; exact run_from p c _ rfl (by rw [← hN]; exact hsz.2) W
      have HQ := Lib.hid hq
      rw [hN]
      clear hI hsz hfo hfo' hit hat hcm hlc hN hq hf hkr hbr c1 c2
      by_cases h1 : fr ≤ r
      · by_cases h2 : r ≤ to_
        · have hFF : F = true := by rw [← HFO.out, if_pos ⟨h1, h2⟩]
          subst hFF
          go_wp2_with (first
            | (go_at_call 32; (with_reducible refine HI.out.mono ?_); rintro e w1 ⟨rfl, hb1⟩; have HB1 := Lib.hid (HBR.out.trans (hb1.mono HBR.out.size)); have c1 : w1.cell? ⟨w.heap.size, 1, none⟩ = some (.bool neg) := cell_of_row w1 _ 1 _ _ _ ((HB1.out.block _ HX.out).trans HK.out); clear hb1))
          go_ret
          exact ⟨ret_bool (by simp), HB.out.trans (HB1.out.mono HB.out.size)⟩
        · have HF2 := Lib.hid (show foundM f ((a :: l).drop sz) r = F by rw [← HFO.out, if_neg (fun x => h2 x.2)])
          go_wp2_with (first
            | (go_at_call 32; (with_reducible refine HI.out.mono ?_); rintro e w1 ⟨rfl, hb1⟩; have HB1 := Lib.hid hb1; clear hb1))
          go_roundw
          case rel =>
            have hd := HAT.out.drop sz HSZ.out.2
            rw [HN.out, HQ.out] at hd
            exact ⟨f, _, hd.below HB1.out, by rw [List.length_drop]; have := HLF.out; have := HSZ.out.1; rw [List.length_cons] at *; omega, HF2.out, HX.out, HBR.out.trans (HB1.out.mono HBR.out.size)⟩
          case measure => show N - sz < N; have := HSZ.out; rw [HN.out] at this; omega
      · have HF2 := Lib.hid (show foundM f ((a :: l).drop sz) r = F by rw [← HFO.out, if_neg (fun x => h1 x.1)])
        go_wp2_with (first
          | (go_at_call 32; (with_reducible refine HI.out.mono ?_); rintro e w1 ⟨rfl, hb1⟩; have HB1 := Lib.hid hb1; clear hb1))
        go_roundw
        case rel =>
          have hd := HAT.out.drop sz HSZ.out.2
          rw [HN.out, HQ.out] at hd
          exact ⟨f, _, hd.below HB1.out, by rw [List.length_drop]; have := HLF.out; have := HSZ.out.1; rw [List.length_cons] at *; omega, HF2.out, HX.out, HBR.out.trans (HB1.out.mono HBR.out.size)⟩
        case measure => show N - sz < N; have := HSZ.out; rw [HN.out] at this; omega
end Go.Proofs.YtpgmlbdfmcbgoaaDoor
