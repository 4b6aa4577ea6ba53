/-
  Proved: contract of without, over bindings in order. Conditions: at most 1000 entries.
-/
import Derived.Test.YtbbopbbnhkcfdaaEnWithV
namespace Go.Proofs.Ytbbopbbnhkcfdaa
open Go Go.RowKit EnMath

set_option maxHeartbeats 1000000 in
theorem without_any {l : List (ByteArray × ByteArray)} {n : ByteArray} {A C : List (ByteArray × ByteArray)} {o : Option ByteArray} (s : Spl l n A o C) (v : Value) (w : World) (h : Rd 2 bC w v l) (hl : l.length ≤ 1000) :
    Calls Try.prog 29 #[v, .string n, .func (.func 23) #[] #[]] w fun e w' => ∃ v', e = .returned v' ∧ Rd 2 bC w' v' (A ++ C) ∧ Below w.heap.size w w' := by
  obtain ⟨p, c, rfl⟩ := h.shape
  have HF := Lib.hid (findV_any s _ w h hl)
  obtain ⟨q1, i1, r1⟩ := partsV s h
  have hlA := congrArg List.length s.is
  cases o with
  | none =>
    have HCAT := Lib.hid (fun (W : World) (hW : Below w.heap.size w W) (g : Nat) (e : g = W.heap.size) => catV_any (some ⟨g, 0, none⟩) 1 [l] (W.alloc (.cells #[.slice p l.length c] 22)) (cat_one e (h.below hW (Nat.le_refl _))) (by simp) (by simp; omega))
    have HI := Lib.hid (show [l].flatten = A ++ C by simp; rw [s.is]; rfl)
    obtain ⟨N, hN⟩ : ∃ N, l.length = N := ⟨_, rfl⟩
    obtain ⟨M, hM⟩ : ∃ M, A.length = M := ⟨_, rfl⟩
    rw [hN, hM] at HF
    rw [hN] at HCAT ⊢
    simp only [Option.isSome_none] at HF
    clear h hl hN hM i1 r1 hlA s
    go_enter Try.func29, Try.ntmps29
    go_wp2_with (first
      | (go_at_call 32; (refine HF.out.mono ?_); rintro e w1 ⟨rfl, hb⟩; have HB := Lib.hid hb; clear hb)
      | (go_at_call 30; (refine (HCAT.out w1 HB.out w1.heap.size rfl).mono ?_); rintro e w2 ⟨v2, rfl, hr, hb⟩; have HR2 := Lib.hid hr; have HB2 := Lib.hid ((HB.out.alloc HB.out.size _).trans (hb.mono (by have := HB.out.size; simp; omega))); clear hr hb))
    go_ret
    exact ⟨v2, rfl, by rw [← HI.out]; exact HR2.out, HB2.out⟩
  | some v0 =>
    obtain ⟨q3, D3, E3, -, i3, r3⟩ := fromV_shape h (A.length + 1) (by simp [one] at hlA; omega)
    have hC : l.drop (A.length + 1) = C := by
      rw [s.is, ← List.drop_drop, List.drop_left]
      rfl
    rw [hC] at r3
    rw [show ((A.length + 1 : Nat) : Int) = (A.length : Int) + 1 by omega] at i3
    have HCAT := Lib.hid (fun (W : World) (hW : Below w.heap.size w W) (g : Nat) (e : g = W.heap.size) => catV_any (some ⟨g, 0, none⟩) 2 [A, C] (W.alloc (.cells #[.slice q1 A.length c, .slice q3 D3 E3] 22)).drew (CatAt.below (w := W.alloc (.cells #[.slice q1 A.length c, .slice q3 D3 E3] 22)) (hb := (Below.refl _ _).drew) (cat_two e (r1.below hW (Nat.le_refl _)) (r3.below hW (Nat.le_refl _)))) (by simp) (by simp [one] at hlA ⊢; omega))
    have HI := Lib.hid (show [A, C].flatten = A ++ C by simp)
    have hM1 : (A.length : Int) + 1 ≤ 9223372036854775807 := by simp [one] at hlA; omega
    have hM0 : (0 : Int) ≤ (A.length : Int) := by omega
    obtain ⟨N, hN⟩ : ∃ N, l.length = N := ⟨_, rfl⟩
    obtain ⟨M, hM⟩ : ∃ M, A.length = M := ⟨_, rfl⟩
    rw [hN, hM] at HF i1 i3
    rw [hM] at HCAT hM1 hM0
    rw [hN]
    simp only [Option.isSome_some] at HF
    clear h hl hN hM r1 r3 hlA s hC
    go_enter Try.func29, Try.ntmps29
    go_upto_region 4 with (first
      | (go_at_call 32; (refine HF.out.mono ?_); rintro e w1 ⟨rfl, hb⟩; have HB := Lib.hid hb; clear hb))
    have HD := Lib.hid (HCAT.out w1 HB.out w1.heap.size rfl)
    have hwr : IntKind.i64.wrap ((M : Int) + 1) = (M : Int) + 1 := IntWalk.i64_in _ ⟨by omega, by omega⟩
    go_region_held3 (fun _ => True) (exact trivial) ((go_at_call 30; (refine HD.out.mono ?_); rintro e w2 ⟨v2, rfl, hr, hb⟩; have HR2 := Lib.hid hr; have HB2 := Lib.hid ((HB.out.alloc HB.out.size _).drew.trans (hb.mono (by have := HB.out.size; simp; omega))); clear hr hb))
    all_goals
      go_wp2_with fail
      go_ret
      exact ⟨v2, rfl, by rw [← HI.out]; exact HR2.out, HB2.out⟩
end Go.Proofs.Ytbbopbbnhkcfdaa
