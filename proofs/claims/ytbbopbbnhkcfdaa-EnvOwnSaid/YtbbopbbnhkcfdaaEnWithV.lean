/-
  Proved: contract of with, over rows of api.Binding in order: with an entry in its place. Conditions: at most 1000 entries.
-/
import Derived.Test.YtbbopbbnhkcfdaaEnFindV
import Derived.Test.YtbbopbbnhkcfdaaEnCatV
import Derived.Deep.RegionHeld3
import Derived.Deep.Cut
namespace Go.Proofs.Ytbbopbbnhkcfdaa
open Go Go.RowKit EnMath

theorem fromV {N k : Nat} (p : Option Addr) (c : Nat) (hk : k ≤ N) (W : World) : (Instr.slice 22 (.slice p N c) (some (.int .i64 (k : Int))) none none).run Try.prog W = .ok (sliced p k N c 2) W := by
  rw [run_slice_l W 22 p N c rfl .i64 (k : Int) (by omega) (by omega), Int.toNat_natCast]
  rfl
theorem uptoV {k c : Nat} (p : Option Addr) (N : Nat) (hk : k ≤ c) (W : World) : (Instr.slice 22 (.slice p N c) none (some (.int .i64 (k : Int))) none).run Try.prog W = .ok (sliced p 0 k c 2) W := by
  rw [run_slice_h W 22 p N c rfl .i64 (k : Int) (by omega) (by omega), Int.toNat_natCast]
  rfl
theorem uptoV_shape {w : World} {p : Option Addr} {c : Nat} {l : List (ByteArray × ByteArray)} (h : Rd 2 bC w (.slice p l.length c) l) (k : Nat) (hk : k ≤ l.length) : ∃ q, (∀ W, (Instr.slice 22 (.slice p l.length c) none (some (.int .i64 (k : Int))) none).run Try.prog W = .ok (.slice q k c) W) ∧ Rd 2 bC w (.slice q k c) (l.take k) := by
  obtain ⟨q, hq⟩ := sliced_shape p 0 k c 2
  rw [Nat.sub_zero, Nat.sub_zero] at hq
  have h2 := h.room
  exact ⟨q, fun W => by rw [uptoV p _ (by omega), hq], by rw [← hq]; exact h.take k hk⟩
theorem fromV_shape {w : World} {p : Option Addr} {c : Nat} {l : List (ByteArray × ByteArray)} (h : Rd 2 bC w (.slice p l.length c) l) (k : Nat) (hk : k ≤ l.length) : ∃ q D E, D = l.length - k ∧ (∀ W, (Instr.slice 22 (.slice p l.length c) (some (.int .i64 (k : Int))) none none).run Try.prog W = .ok (.slice q D E) W) ∧ Rd 2 bC w (.slice q D E) (l.drop k) := by
  obtain ⟨q, hq⟩ := sliced_shape p k l.length c 2
  exact ⟨q, _, _, rfl, fun W => by rw [fromV p c hk, hq], by rw [← hq]; exact h.drop k hk⟩

/-- What is ahead of a name's place, what is behind it. -/
theorem partsV {w : World} {l : List (ByteArray × ByteArray)} {n : ByteArray} {A C : List (ByteArray × ByteArray)} {o : Option ByteArray} (s : Spl l n A o C) {p : Option Addr} {c : Nat} (h : Rd 2 bC w (.slice p l.length c) l) :
    ∃ q1, (∀ W, (Instr.slice 22 (.slice p l.length c) none (some (.int .i64 (A.length : Int))) none).run Try.prog W = .ok (.slice q1 A.length c) W) ∧ Rd 2 bC w (.slice q1 A.length c) A := by
  obtain ⟨q, h1, h2⟩ := uptoV_shape h A.length s.le
  refine ⟨q, h1, ?_⟩
  have : l.take A.length = A := by rw [s.is]; exact List.take_left
  rwa [this] at h2
theorem behindV {w : World} {l : List (ByteArray × ByteArray)} {n : ByteArray} {A C : List (ByteArray × ByteArray)} {o : Option ByteArray} (s : Spl l n A o C) {p : Option Addr} {c : Nat} (h : Rd 2 bC w (.slice p l.length c) l) :
    ∃ q2 D E, (∀ W, (Instr.slice 22 (.slice p l.length c) (some (.int .i64 (A.length : Int))) none none).run Try.prog W = .ok (.slice q2 D E) W) ∧ Rd 2 bC w (.slice q2 D E) (one n o ++ C) ∧ (o.isSome = true → 1 ≤ D) := by
  obtain ⟨q, D, E, hD, h1, h2⟩ := fromV_shape h A.length s.le
  have h3 : l.drop A.length = one n o ++ C := by rw [s.is]; exact List.drop_left
  have h4 := congrArg List.length h3
  rw [h3] at h2
  refine ⟨q, D, E, h1, h2, fun ho => ?_⟩
  cases o with
  | none => cases ho
  | some v => rw [List.length_drop] at h4; simp [one] at h4; omega
theorem restV {w : World} {n : ByteArray} {v : ByteArray} {C : List (ByteArray × ByteArray)} {q2 : Option Addr} {D E : Nat} (h : Rd 2 bC w (.slice q2 D E) (one n (some v) ++ C)) :
    ∃ q3 D3 E3, (∀ W, (Instr.slice 22 (.slice q2 D E) (some (.int .i64 1)) none none).run Try.prog W = .ok (.slice q3 D3 E3) W) ∧ Rd 2 bC w (.slice q3 D3 E3) C := by
  have hD := h.room.1
  subst hD
  obtain ⟨q, D3, E3, -, h1, h2⟩ := fromV_shape h 1 (by simp [one])
  exact ⟨q, D3, E3, h1, h2⟩

set_option maxHeartbeats 1000000 in
theorem withV_any {l : List (ByteArray × ByteArray)} {n : ByteArray} {A C : List (ByteArray × ByteArray)} {o : Option ByteArray} (s : Spl l n A o C) (val : ByteArray) (v : Value) (w : World) (h : Rd 2 bC w v l) (hl : l.length ≤ 1000) :
    Calls Try.prog 26 #[v, .agg #[.string n, .string val], .func (.func 23) #[] #[]] w fun e w' => ∃ v', e = .returned v' ∧ Rd 2 bC w' v' (A ++ (n, val) :: C) ∧ Below w.heap.size w w' := by
  obtain ⟨p, c, rfl⟩ := h.shape
  obtain ⟨W1, hW1⟩ : ∃ W, w.alloc (.cells #[.string n, .string val] 44) = W := ⟨_, rfl⟩
  have hb : Below w.heap.size w W1 := by rw [← hW1]; exact (Below.refl _ w).alloc (Nat.le_refl _) _
  have hX : w.heap.size < W1.heap.size := by rw [← hW1]; simp
  have c0 : W1.cell? ⟨w.heap.size, 0, none⟩ = some (.string n) := by rw [← hW1]; exact cell_of_row _ _ 0 _ _ _ (heap_alloc_new w _)
  have c1 : W1.cell? ⟨w.heap.size, 1, none⟩ = some (.string val) := by rw [← hW1]; exact cell_of_row _ _ 1 _ _ _ (heap_alloc_new w _)
  have HB := Lib.hid hb
  have HC := Lib.hid (And.intro c0 (And.intro c1 hX))
  have h1 := h.below hb (Nat.le_refl _)
  obtain ⟨q1, i1, r1⟩ := partsV s h1
  obtain ⟨q2, D, E, i2, r2, -⟩ := behindV s h1
  have HF := Lib.hid (fun (W : World) (hW : Rd 2 bC W (.slice p l.length c) l) => findV_any s _ W hW hl)
  have H1 := Lib.hid h1
  have hlen : (A ++ (n, val) :: C).length ≤ 1001 := by
    have := congrArg List.length s.is
    cases o <;> simp [one] at this <;> simp <;> omega
  have HL := Lib.hid hlen
  obtain ⟨N, hN⟩ : ∃ N, l.length = N := ⟨_, rfl⟩
  obtain ⟨M, hM⟩ : ∃ M, A.length = M := ⟨_, rfl⟩
  rw [hN] at i1 i2 HF H1 ⊢
  rw [hM] at i1 i2 HF r1
  have HR1 := Lib.hid r1
  have HK := Lib.hid (fun (W : World) (hW : Below W1.heap.size W1 W) => (show W.cell? ⟨w.heap.size, 0, none⟩ = some (.string n) ∧ W.cell? ⟨w.heap.size, 1, none⟩ = some (.string val) from ⟨(hW.cell (p := ⟨w.heap.size, 0, none⟩) hX).trans c0, (hW.cell (p := ⟨w.heap.size, 1, none⟩) hX).trans c1⟩))
  cases o with
  | none =>
    have HR2 := Lib.hid r2
    simp only [Option.isSome_none] at HF
    have HCAT := Lib.hid (fun (W : World) (hW : Below W1.heap.size W1 W) (g1 g2 : Nat) (e1 : g1 = W.heap.size) (e2 : g2 = W.heap.size + 1) =>
      catV_any (some ⟨g2, 0, none⟩) 3 [A, [(n, val)], C] ((W.alloc (.cells #[.string n, .string val] 44)).alloc (.cells #[.slice q1 M c, .slice (some ⟨g1, 0, none⟩) 1 1, .slice q2 D E] 22)).drew
        (CatAt.below (w := (W.alloc (.cells #[.string n, .string val] 44)).alloc (.cells #[.slice q1 M c, .slice (some ⟨g1, 0, none⟩) 1 1, .slice q2 D E] 22)) (hb := (Below.refl _ _).drew) (cat_three (by simp [e2]) ((r1.below hW (Nat.le_refl _)).below ((Below.refl _ _).alloc (Nat.le_refl _) _) (Nat.le_refl _)) (Rd.one W e1 _ (n, val) rfl) ((r2.below hW (Nat.le_refl _)).below ((Below.refl _ _).alloc (Nat.le_refl _) _) (Nat.le_refl _))))
        (by simp) (by simp at hlen ⊢; omega))
    clear h h1 hb hX hl hlen hN hM r1 r2
    go_enter Try.func26, Try.ntmps26
    go_upto_region 5 with (first
      | (rw [hW1]; clear hW1)
      | (go_at_call 23; (with_reducible refine (varName_any _ _ W1).mono ?_); rintro e w2 ⟨rfl, hb2⟩; have HB2 := Lib.hid hb2; have c0 := (HK.out w2 hb2).1; have c1 := (HK.out w2 hb2).2; clear hb2)
      | (go_at_call 32; (refine (HF.out w2 (H1.out.below HB2.out (Nat.le_refl _))).mono ?_); rintro e w3 ⟨rfl, hb3⟩; have HB3 := Lib.hid (HB2.out.trans (hb3.mono HB2.out.size)); clear hb3))
    have HD := Lib.hid (HCAT.out w3 HB3.out w3.heap.size (w3.heap.size + 1) rfl rfl)
    have HS0 := Lib.hid (HK.out w3.drew HB3.out.drew)
    have HS1 := Lib.hid (fun o => HK.out (w3.alloc o).drew (HB3.out.alloc HB3.out.size o).drew)
    have HS2 := Lib.hid (fun o1 o2 => HK.out ((w3.alloc o1).alloc o2).drew ((HB3.out.alloc HB3.out.size o1).alloc (by have := HB3.out.size; simp; omega) o2).drew)
    go_region_held3 (fun V => V.cell? ⟨w.heap.size, 0, none⟩ = some (.string n) ∧ V.cell? ⟨w.heap.size, 1, none⟩ = some (.string val)) (first | assumption | exact HS0.out | exact HS1.out _ | exact HS2.out _ _ | exact HS4.out) ((go_at_call 30; (refine HD.out.mono ?_); rintro e w4 ⟨v4, rfl, hr4, hb4⟩; have HR4 := Lib.hid hr4; have HB4 := Lib.hid (((HB3.out.alloc HB3.out.size _).alloc (by have := HB3.out.size; simp; omega) _).drew.trans (hb4.mono (by have := HB3.out.size; simp; omega))); have HS4 := Lib.hid (HK.out w4 HB4.out); clear hr4 hb4))
    all_goals
      have hf : [A, [(n, val)], C].flatten = A ++ (n, val) :: C := by simp
      go_wp2_with fail
      go_ret
      exact ⟨v4, rfl, by rw [← hf]; exact HR4.out, HB.out.trans (HB4.out.mono HB.out.size)⟩
  | some v0 =>
    have HR2 := Lib.hid r2
    simp only [Option.isSome_some] at HF
    obtain ⟨q3, D3, E3, i3, r3⟩ := restV r2
    have HCAT := Lib.hid (fun (W : World) (hW : Below W1.heap.size W1 W) (g1 g2 : Nat) (e1 : g1 = W.heap.size) (e2 : g2 = W.heap.size + 1) =>
      catV_any (some ⟨g2, 0, none⟩) 3 [A, [(n, val)], C] ((W.alloc (.cells #[.string n, .string val] 44)).alloc (.cells #[.slice q1 M c, .slice (some ⟨g1, 0, none⟩) 1 1, .slice q3 D3 E3] 22)).drew
        (CatAt.below (w := (W.alloc (.cells #[.string n, .string val] 44)).alloc (.cells #[.slice q1 M c, .slice (some ⟨g1, 0, none⟩) 1 1, .slice q3 D3 E3] 22)) (hb := (Below.refl _ _).drew) (cat_three (by simp [e2]) ((r1.below hW (Nat.le_refl _)).below ((Below.refl _ _).alloc (Nat.le_refl _) _) (Nat.le_refl _)) (Rd.one W e1 _ (n, val) rfl) ((r3.below hW (Nat.le_refl _)).below ((Below.refl _ _).alloc (Nat.le_refl _) _) (Nat.le_refl _))))
        (by simp) (by simp at hlen ⊢; omega))
    clear h h1 hb hX hl hlen hN hM r1 r2 r3
    go_enter Try.func26, Try.ntmps26
    go_upto_region 5 with (first
      | (rw [hW1]; clear hW1)
      | (go_at_call 23; (with_reducible refine (varName_any _ _ W1).mono ?_); rintro e w2 ⟨rfl, hb2⟩; have HB2 := Lib.hid hb2; have c0 := (HK.out w2 hb2).1; have c1 := (HK.out w2 hb2).2; clear hb2)
      | (go_at_call 32; (refine (HF.out w2 (H1.out.below HB2.out (Nat.le_refl _))).mono ?_); rintro e w3 ⟨rfl, hb3⟩; have HB3 := Lib.hid (HB2.out.trans (hb3.mono HB2.out.size)); clear hb3))
    have HD := Lib.hid (HCAT.out w3 HB3.out w3.heap.size (w3.heap.size + 1) rfl rfl)
    have HS0 := Lib.hid (HK.out w3.drew HB3.out.drew)
    have HS1 := Lib.hid (fun o => HK.out (w3.alloc o).drew (HB3.out.alloc HB3.out.size o).drew)
    have HS2 := Lib.hid (fun o1 o2 => HK.out ((w3.alloc o1).alloc o2).drew ((HB3.out.alloc HB3.out.size o1).alloc (by have := HB3.out.size; simp; omega) o2).drew)
    go_region_held3 (fun V => V.cell? ⟨w.heap.size, 0, none⟩ = some (.string n) ∧ V.cell? ⟨w.heap.size, 1, none⟩ = some (.string val)) (first | assumption | exact HS0.out | exact HS1.out _ | exact HS2.out _ _ | exact HS4.out) ((go_at_call 30; (refine HD.out.mono ?_); rintro e w4 ⟨v4, rfl, hr4, hb4⟩; have HR4 := Lib.hid hr4; have HB4 := Lib.hid (((HB3.out.alloc HB3.out.size _).alloc (by have := HB3.out.size; simp; omega) _).drew.trans (hb4.mono (by have := HB3.out.size; simp; omega))); have HS4 := Lib.hid (HK.out w4 HB4.out); clear hr4 hb4))
    all_goals
      have hf : [A, [(n, val)], C].flatten = A ++ (n, val) :: C := by simp
      go_wp2_with fail
      go_ret
      exact ⟨v4, rfl, by rw [← hf]; exact HR4.out, HB.out.trans (HB4.out.mono HB.out.size)⟩
end Go.Proofs.Ytbbopbbnhkcfdaa
