/-
  Proved: the contracts of parameter and op. Conditions: the reader lies in memory.
-/
import Derived.Test.YtpifbpfmjmcchaaDoorLexVar
namespace Go.Proofs.YtpifbpfmjmcchaaDoor
open Go Go.RowKit GlyphMath LexMath

/-- What parameter answers. -/
def ParEnd (w w' : World) (e : Ending) (X G sz : Nat) (m : Res (List Nat)) : Prop :=
  match m with
  | .ok (l, r) => e = .returned (.tuple #[partV ⟨2, enc l, [], [], false⟩ zeroV, .int .i64 0]) ∧ RStep w w' X G sz r ∧ (∀ c ∈ l, GoodL c)
  | .error c => c = 2 ∧ e = .returned (.tuple #[partV ⟨0, [], [], [], false⟩ zeroV, .int .i64 2]) ∧ Kept (fun k => k = X) w w'

theorem var_kept {w w1 w2 : World} {X : Nat} (hb : Below (w.alloc ZB).heap.size (w.alloc ZB) w1) (k : Kept (fun k => k = X) w1 w2) (a b c d e : Value) :
    Kept (fun k => k = X) w (((((w2.setCell ⟨w.heap.size, 0, none⟩ a).setCell ⟨w.heap.size, 1, none⟩ b).setCell ⟨w.heap.size, 2, none⟩ c).setCell ⟨w.heap.size, 3, none⟩ d).setCell ⟨w.heap.size, 4, none⟩ e) :=
  (((Kept.of_below ((Below.refl _ w).alloc (Nat.le_refl _) ZB)).trans (Kept.of_below (D := fun _ => False) hb) (fun _ h => h.elim)).on k).trans (five_kept (D := fun k => w.heap.size ≤ k) (Kept.refl _ _) (.inl (Nat.le_refl _)) _ _ _ _ _) (fun _ h => .inr h)
theorem Rd.five {w : World} {X G sz : Nat} {xs : List Nat} (h : Rd w X G sz xs) {k : Nat} (hX : X ≠ k) (hG : G ≠ k) (a b c d e : Value) :
    Rd (((((w.setCell ⟨k, 0, none⟩ a).setCell ⟨k, 1, none⟩ b).setCell ⟨k, 2, none⟩ c).setCell ⟨k, 3, none⟩ d).setCell ⟨k, 4, none⟩ e) X G sz xs :=
  h.kept (five_kept (D := fun j => j = k) (Kept.refl _ _) (.inl rfl) a b c d e) hX hG

set_option maxHeartbeats 1000000 in
set_option maxRecDepth 100000 in
theorem parameter_name {w : World} {X G sz : Nat} {xs : List Nat} (h : Rd w X G sz xs) (ho : other (next xs) = false) :
    Calls Tryd.prog 74 #[.pointer (some ⟨X, 0, none⟩)] w fun e w' => ParEnd w w' e X G sz (parameterM xs) := by
  have HR := Lib.hid (h.below ((Below.refl _ w).alloc (Nat.le_refl _) ZB))
  have hlt := next_lt0 h.good
  have HA := Lib.hid (fun W => by have := other_any (next xs) hlt W; rw [ho] at this; exact this)
  have HX := Lib.hid h.lt
  obtain ⟨l, hl⟩ : ∃ l, got (fun r => !moreR r) xs = l := ⟨_, rfl⟩
  obtain ⟨r, hr⟩ : ∃ r, left (fun r => !moreR r) xs = r := ⟨_, rfl⟩
  have hgl : ∀ c ∈ l, GoodL c := by rw [← hl]; exact got_good h.good
  obtain ⟨b, hb⟩ : ∃ b, nameL l = b := ⟨_, rfl⟩
  obtain ⟨T, hT⟩ : ∃ T : ByteArray, txt (enc l) = .string T := ⟨_, rfl⟩
  have HNM := Lib.hid (fun W => by have := nameT hgl W; rw [hb, hT] at this; exact this)
  have HTX := Lib.hid hT
  have HO := Lib.hid (And.intro ho hb)
  have HLR := Lib.hid (And.intro hl hr)
  have HGL := Lib.hid hgl
  obtain ⟨c, hc⟩ : ∃ c, next xs = c := ⟨_, rfl⟩
  rw [hc] at HA
  have HC := Lib.hid hc
  clear h ho hlt hl hr hgl hb hc hT
  cases b
  all_goals
    go_enter Tryd.func74, Tryd.ntmps74
    go_wp2_with (first
      | (go_at_call 26; refine (next_any HR.out).mono ?_; rintro e w1 ⟨rfl, rfl⟩; rw [HC.out])
      | (go_at_call 73; refine (HA.out _).mono ?_; rintro e w1 ⟨rfl, hb1⟩; have HB1 := Lib.hid hb1; clear hb1)
      | (go_at_call 24; refine (till_any stops_name (HR.out.below HB1.out) (fun _ _ => trivial)).mono ?_; rintro e w2 ⟨rfl, hs2⟩; rw [HLR.out.1, HTX.out]; rw [HLR.out.2] at hs2; have HS2 := Lib.hid hs2; clear hs2))
    refine (HNM.out _).mono ?_
    rintro e w3 ⟨rfl, hb3⟩
    have hs3 := HS2.out.below hb3
    have hblk : w3.heap[w.heap.size]? = some ZB := hs3.2.heap ((HB1.out.block _ (by simp)).trans (heap_alloc_new w _)) (fun e => by have := HX.out.1; omega)
    obtain ⟨d0, d1, d2, d3, d4⟩ := five_cells hblk
    have fz := five_free hblk
    have f0 := fz 0
    have f1 := fz 1
    have f2 := fz 2
    have f3 := fz 3
    have f4 := fz 4
    have HB := Lib.hid hblk
    have HS3 := Lib.hid hs3
    clear hblk fz hs3 hb3
    go_wp2_with fail
    (try simp only [Exit.inBlock, Exit.then])
    refine bodyPost_ret (ret_part rfl (five_put HB.out _ _ _ _ _) rfl rfl) rfl ?_
  · rw [show parameterM xs = .error 2 by unfold parameterM; rw [HO.out.1, HLR.out.1, HO.out.2]; rfl]
    exact ⟨rfl, rfl, var_kept HB1.out HS3.out.2 _ _ _ _ _⟩
  · rw [show parameterM xs = .ok (l, r) by unfold parameterM; rw [HO.out.1, HLR.out.1, HLR.out.2, HO.out.2]; rfl]
    exact ⟨by rw [partV, HTX.out]; rfl, ⟨HS3.out.1.five (by have := HX.out.1; omega) (by have := HX.out.2; omega) _ _ _ _ _, var_kept HB1.out HS3.out.2 _ _ _ _ _⟩, HGL.out⟩

theorem parameter_any {w : World} {X G sz : Nat} {xs : List Nat} (h : Rd w X G sz xs) :
    Calls Tryd.prog 74 #[.pointer (some ⟨X, 0, none⟩)] w fun e w' => ParEnd w w' e X G sz (parameterM xs) := by
  cases ho : other (next xs) with
  | false => exact parameter_name h ho
  | true =>
    have hm : parameterM xs = .ok ([next xs], xs.tail) := by unfold parameterM; rw [ho]; rfl
    rw [hm]
    refine (parameter_other h ho).mono fun e w' ⟨h1, h2⟩ => ⟨h1, h2, fun c hc => ?_⟩
    obtain rfl : c = next xs := by simpa using hc
    exact (next_lt0 h.good).resolve_left fun e => by rw [e] at ho; cases ho

theorem takesM {w : World} {X G sz : Nat} {xs : List Nat} (h : Rd w X G sz xs) (p : ByteArray) (ps : List Nat) (hp : p.data.toList.map (·.toNat) = ps) (hlow : ∀ b ∈ p.data.toList, 0 < b.toNat ∧ b.toNat < 128) {m : Option (List Nat)} (hm : takes ps xs = m) :
    Calls Tryd.prog 42 #[.pointer (some ⟨X, 0, none⟩), .string p] w fun e w' => e = .returned (.bool m.isSome) ∧ RStep w w' X G sz (m.getD xs) := by
  have := takes_any p ps hp hlow h
  rwa [hm] at this

/-- What op answers. -/
def OpEnd (w w' : World) (e : Ending) (X G sz : Nat) (xs : List Nat) (m : Option (List UInt8 × List Nat)) : Prop :=
  match m with
  | some (o, r) => e = .returned (txt o) ∧ o ≠ [] ∧ RStep w w' X G sz r
  | none => e = .returned (txt []) ∧ RStep w w' X G sz xs

set_option maxHeartbeats 1000000 in
theorem op_any {w : World} {X G sz : Nat} {xs l : List Nat} (h : Rd w X G sz xs) (hl : ∀ c ∈ l, GoodL c) :
    Calls Tryd.prog 89 #[.pointer (some ⟨X, 0, none⟩), txt (enc l)] w fun e w' => OpEnd w w' e X G sz xs (opM (nameL l) xs) := by
  obtain ⟨T, hT⟩ : ∃ T, txt (enc l) = T := ⟨_, rfl⟩
  obtain ⟨b, hb⟩ : ∃ b, nameL l = b := ⟨_, rfl⟩
  have HNM := Lib.hid (fun W => by have := nameT hl W; rw [hb, hT] at this; exact this)
  rw [hT, hb]
  obtain ⟨m1, h1⟩ : ∃ m, takes [58, 45] xs = m := ⟨_, rfl⟩
  obtain ⟨m2, h2⟩ : ∃ m, takes [58, 43] xs = m := ⟨_, rfl⟩
  obtain ⟨m3, h3⟩ : ∃ m, takes [58, 61] xs = m := ⟨_, rfl⟩
  have HR := Lib.hid h
  have H1 := Lib.hid (fun (W : World) (hR : Rd W X G sz xs) => takesM hR ⟨#[58, 45]⟩ [58, 45] rfl (by decide) h1)
  have H2 := Lib.hid (fun (W : World) (hR : Rd W X G sz xs) => takesM hR ⟨#[58, 43]⟩ [58, 43] rfl (by decide) h2)
  have H3 := Lib.hid (fun (W : World) (hR : Rd W X G sz xs) => takesM hR ⟨#[58, 61]⟩ [58, 61] rfl (by decide) h3)
  have HM := Lib.hid (And.intro h1 (And.intro h2 h3))
  have HT := Lib.hid hT
  clear h h1 h2 h3 hl hb hT
  cases m1 with
  | some r =>
    go_enter Tryd.func89, Tryd.ntmps89
    go_wp2_with (go_at_call 42; refine (H1.out _ HR.out).mono ?_; rintro e w1 ⟨rfl, hs1⟩; have HS1 := Lib.hid hs1; clear hs1)
    go_ret
    unfold opM
    rw [HM.out.1]
    exact ⟨rfl, by simp, HS1.out⟩
  | none =>
    cases m2 with
    | some r =>
      go_enter Tryd.func89, Tryd.ntmps89
      go_wp2_with fail
      refine (H1.out _ HR.out).mono ?_
      rintro e w1 ⟨rfl, hs1⟩
      have HS1 := Lib.hid hs1
      clear hs1
      go_wp2_with (go_at_call 42; refine (H2.out _ HS1.out.1).mono ?_; rintro e w2 ⟨rfl, hs2⟩; have HS2 := Lib.hid hs2; clear hs2)
      go_ret
      unfold opM
      rw [HM.out.1, HM.out.2.1]
      exact ⟨rfl, by simp, HS1.out.trans HS2.out⟩
    | none =>
      cases b with
      | false =>
        go_enter Tryd.func89, Tryd.ntmps89
        go_wp2_with fail
        refine (H1.out _ HR.out).mono ?_
        rintro e w1 ⟨rfl, hs1⟩
        have HS1 := Lib.hid hs1
        clear hs1
        go_wp2_with fail
        refine (H2.out _ HS1.out.1).mono ?_
        rintro e w2 ⟨rfl, hs2⟩
        have HS2 := Lib.hid (HS1.out.trans hs2)
        clear hs2
        go_wp2_with (go_at_call 87; refine (HNM.out _).mono ?_; rintro e w3 ⟨rfl, hb3⟩; have HS3 := Lib.hid (HS2.out.below hb3); clear hb3)
        go_ret
        unfold opM
        rw [HM.out.1, HM.out.2.1]
        exact ⟨rfl, HS3.out⟩
      | true =>
        cases m3
        all_goals
          go_enter Tryd.func89, Tryd.ntmps89
          go_wp2_with fail
          refine (H1.out _ HR.out).mono ?_
          rintro e w1 ⟨rfl, hs1⟩
          have HS1 := Lib.hid hs1
          clear hs1
          go_wp2_with fail
          refine (H2.out _ HS1.out.1).mono ?_
          rintro e w2 ⟨rfl, hs2⟩
          have HS2 := Lib.hid (HS1.out.trans hs2)
          clear hs2
          go_wp2_with (first
            | (go_at_call 87; refine (HNM.out _).mono ?_; rintro e w3 ⟨rfl, hb3⟩; have HS3 := Lib.hid (HS2.out.below hb3); clear hb3)
            | (go_at_call 42; refine (H3.out _ HS3.out.1).mono ?_; rintro e w4 ⟨rfl, hs4⟩; have HS4 := Lib.hid hs4; clear hs4))
          go_ret
          unfold opM
          rw [HM.out.1, HM.out.2.1, if_pos rfl, HM.out.2.2]
        · exact ⟨rfl, HS3.out.trans HS4.out⟩
        · exact ⟨rfl, by simp, HS3.out.trans HS4.out⟩
end Go.Proofs.YtpifbpfmjmcchaaDoor
