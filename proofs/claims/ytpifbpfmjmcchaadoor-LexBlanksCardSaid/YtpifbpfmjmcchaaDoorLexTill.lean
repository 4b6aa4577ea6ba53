/-
  Proved: the contract of a reader's till, for whatever function value that tells of a letter whether it stops. Conditions: the reader lies in memory; the function value does as it is said.
-/
import Derived.Test.YtpifbpfmjmcchaaDoorLexBuild
import Derived.Test.YtpifbpfmjmcchaaDoorLexSets
import Derived.BigCall
namespace Go.Proofs.YtpifbpfmjmcchaaDoor
open Go Go.RowKit GlyphMath LexMath

/-- How many cells a reader has left. -/
def lenAt (w : World) (X : Nat) : Nat := match w.cell? ⟨X, 0, none⟩ with
  | some (.slice _ n _) => n
  | _ => 0
theorem Rd.lenAt {w : World} {X G sz : Nat} {xs : List Nat} (h : Rd w X G sz xs) : lenAt w X = xs.length + 1 := by
  obtain ⟨o, c, h⟩ := h
  unfold Go.Proofs.YtpifbpfmjmcchaaDoor.lenAt
  rw [h.cell0]

/-- What a function value that stops is: it answers of each letter, in each world where I holds, and turns nothing that was there. -/
structure Stops (f : FuncId) (caps : Array Value) (S : Nat → Bool) (I : World → Prop) : Prop where
  enter : ∀ args w, (callFunc f args).run Tryd.prog w = .ok (.enter f args) w
  call : ∀ (r : Nat) (W : World), Lt0 r → I W → Calls Tryd.prog f (#[.int .i32 (r : Int)] ++ caps) W fun e w' => e = .returned (.bool (S r)) ∧ Below W.heap.size W w'

theorem got_stop (S : Nat → Bool) (c : Nat) (r : List Nat) (h : S c = true) : got S (c :: r) = [] ∧ left S (c :: r) = c :: r := by
  rw [show got S (c :: r) = if S c then [] else c :: got S r from rfl, show left S (c :: r) = if S c then c :: r else left S r from rfl, if_pos h, if_pos h]
  exact ⟨rfl, rfl⟩
theorem got_go (S : Nat → Bool) (c : Nat) (r : List Nat) (h : S c = false) : got S (c :: r) = c :: got S r ∧ left S (c :: r) = left S r := by
  rw [show got S (c :: r) = if S c then [] else c :: got S r from rfl, show left S (c :: r) = if S c then c :: r else left S r from rfl, if_neg (by rw [h]; decide), if_neg (by rw [h]; decide)]
  exact ⟨rfl, rfl⟩

set_option maxHeartbeats 1000000 in
set_option maxRecDepth 100000 in
theorem till_any {f : FuncId} {caps : Array Value} {S : Nat → Bool} {I : World → Prop} (hS : Stops f caps S I) {w : World} {X G sz : Nat} {xs : List Nat} (h : Rd w X G sz xs)
    (hI : ∀ W, Kept (fun k => k = X) w W → I W) :
    Calls Tryd.prog 24 #[.pointer (some ⟨X, 0, none⟩), .func (.func f) #[] caps] w fun e w' => e = .returned (txt (enc (got S xs))) ∧ RStep w w' X G sz (left S xs) := by
  have HS := Lib.hid hS
  have HI := Lib.hid hI
  have HW := Lib.hid h
  have ef := hS.enter
  clear hS hI h
  go_enter Tryd.func24, Tryd.ntmps24
  go_wp2_with fail
  go_loopw [] (fun wr => ∃ done ys, Rd wr X G sz ys ∧ Bld wr w.heap.size w.heap.size (enc done) ∧ Kept (fun k => k = X) w wr ∧ w.heap.size < wr.heap.size ∧ got S xs = done ++ got S ys ∧ left S xs = left S ys ∧ done.length + ys.length = xs.length) (fun wr => lenAt wr X)
  case atStart =>
    refine ⟨[], xs, HW.out.below ?_, Bld.new w, Kept.of_below ?_, by simp, rfl, rfl, by simp⟩
    · exact (Below.refl _ w).alloc (Nat.le_refl _) _
    · exact (Below.refl _ w).alloc (Nat.le_refl _) _
  case round =>
    obtain ⟨done, ys, hr, hb, hk, hz, hg, hl, hn⟩ := hrel
    have HR := Lib.hid hr
    have HN := Lib.hid (next_any hr)
    have HT := Lib.hid (take_any hr)
    have HB := Lib.hid hb
    have HK := Lib.hid hk
    have HZ := Lib.hid hz
    have HG := Lib.hid (And.intro hg (And.intro hl hn))
    clear hr hb hk hz hg hl hn
    cases ys with
    | nil =>
      have HE := Lib.hid (string_any w.heap.size w.heap.size (enc done) wr HB.out (by have := HZ.out; omega))
      go_wp2_with (first | (go_at_call 26; refine HN.out.mono ?_; rintro e w1 ⟨rfl, rfl⟩; simp only [next]) | (go_at_call 41; refine HE.out.mono ?_; rintro e w2 ⟨rfl, hb2⟩; have HB2 := Lib.hid hb2; clear hb2))
      go_ret
      obtain ⟨g1, g2, g3⟩ := HG.out
      have hk2 : Kept (fun k => w.heap.size ≤ k) wr w2 := ⟨HB2.out.os, HB2.out.tape, HB2.out.output, HB2.out.size, fun k _ hd => HB2.out.block k (by omega)⟩
      have hlt := HW.out.lt
      refine ⟨by rw [g1]; simp [got], ?_, ?_⟩
      · rw [g2]
        exact HR.out.kept hk2 (by omega) (by omega)
      · exact HK.out.trans hk2 fun i hi => .inr hi
    | cons c r =>
      have hc := HR.out.good c (by simp)
      have hx : ((c : Int) != 0) = true := by
        have := hc.1
        have : ¬ (c : Int) = 0 := by omega
        simpa using this
      have hcall := HS.out.call c wr (.inr hc) (HI.out wr HK.out)
      obtain ⟨b, hb⟩ : ∃ b, S c = b := ⟨_, rfl⟩
      rw [hb] at hcall
      have HC := Lib.hid hcall
      have HGC := Lib.hid hc
      have HSC := Lib.hid hb
      clear hc hcall hb
      cases b with
      | true =>
        go_wp2_with (first | (go_at_call 26; refine HN.out.mono ?_; rintro e w1 ⟨rfl, rfl⟩; simp only [next]) | (go_at_fn f; refine HC.out.mono ?_; rintro e w1 ⟨rfl, hb1⟩; have HB1 := Lib.hid hb1; clear hb1; have HE := Lib.hid (string_any w.heap.size w.heap.size (enc done) w1 (HB.out.kept (D := fun _ => False) (Kept.of_below HB1.out) (fun _ _ h => h)) (by have := HZ.out; have := HB1.out.size; omega))) | (go_at_call 41; refine HE.out.mono ?_; rintro e w2 ⟨rfl, hb2⟩; have HB2 := Lib.hid hb2; clear hb2))
        go_ret
        obtain ⟨g1, g2, g3⟩ := HG.out
        obtain ⟨s1, s2⟩ := got_stop S c r HSC.out
        have hk1 : Kept (fun k => k = X) wr w1 := Kept.of_below HB1.out
        have hk2 : Kept (fun k => w.heap.size ≤ k) w1 w2 := ⟨HB2.out.os, HB2.out.tape, HB2.out.output, HB2.out.size, fun k _ hd => HB2.out.block k (by omega)⟩
        have hlt := HW.out.lt
        refine ⟨by rw [g1, s1]; simp, ?_, ?_⟩
        · rw [g2, s2]
          exact (HR.out.below HB1.out).kept hk2 (by omega) (by omega)
        · exact (HK.out.on hk1).trans hk2 fun i hi => .inr hi
      | false =>
        go_wp2_with (first
          | (go_at_call 26; refine HN.out.mono ?_; rintro e w1 ⟨rfl, rfl⟩; simp only [next])
          | (go_at_fn f; refine HC.out.mono ?_; rintro e w1 ⟨rfl, hb1⟩; have HB1 := Lib.hid hb1; clear hb1; have HT1 := Lib.hid (take_any (HR.out.below HB1.out)))
          | (go_at_call 40; refine HT1.out.mono ?_; rintro e w2 ⟨rfl, hs2⟩; have HS2 := Lib.hid hs2; clear hs2; simp only [next]; have HE := Lib.hid (writeRune_any w.heap.size w.heap.size (enc done) c HGC.out w2 ((HB.out.kept (D := fun _ => False) (Kept.of_below HB1.out) (fun _ _ h => h)).kept HS2.out.2 (fun k hk e => by have := HW.out.lt; omega)) (by have h1 := (enc_length done).2; have h2 := HG.out.2.2; have h3 := HW.out.few; omega) (by have h1 := HS2.out.2.size; have h2 := HB1.out.size; have h3 := HZ.out; omega)))
          | (go_at_call 39; refine HE.out.mono ?_; rintro e w3 ⟨⟨n3, rfl⟩, hd3, hb3⟩; have HD3 := Lib.hid (And.intro hd3 hb3); clear hd3 hb3))
        go_roundw
        case rel =>
          obtain ⟨g1, g2, g3⟩ := HG.out
          obtain ⟨s1, s2⟩ := got_go S c r HSC.out
          have hlt := HW.out.lt
          have hk1 : Kept (fun k => k = X) wr w1 := Kept.of_below HB1.out
          have hk3 : Kept (fun k => w.heap.size ≤ k) w2 w3 := ⟨HD3.out.2.os, HD3.out.2.tape, HD3.out.2.output, HD3.out.2.size, fun k _ hd => HD3.out.2.block k (by omega)⟩
          refine ⟨done ++ [c], r, HS2.out.1.kept hk3 (by omega) (by omega), ?_, ((HK.out.on hk1).on HS2.out.2).trans hk3 fun i hi => .inr hi, ?_, ?_, ?_, ?_⟩
          · rw [enc_append]; simp only [enc, List.append_nil]; exact HD3.out.1
          · have h1 := HS2.out.2.size; have h2 := HB1.out.size; have h3 := HZ.out; have h4 := HD3.out.2.size; omega
          · rw [g1, s1]; simp
          · rw [g2, s2]
          · rw [List.length_append]; simp at g3 ⊢; omega
        case measure =>
          have hlt := HW.out.lt
          have hk3 : Kept (fun k => w.heap.size ≤ k) w2 w3 := ⟨HD3.out.2.os, HD3.out.2.tape, HD3.out.2.output, HD3.out.2.size, fun k _ hd => HD3.out.2.block k (by omega)⟩
          have e1 := (HS2.out.1.kept hk3 (by omega) (by omega)).lenAt
          have e2 := HR.out.lenAt
          simp only [e1, e2, List.tail_cons, List.length_cons]
          omega
end Go.Proofs.YtpifbpfmjmcchaaDoor
