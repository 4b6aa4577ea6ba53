/-
  Proved: contracts of a reader's next, at, take and takes. Conditions: the reader lies in memory.
-/
import Derived.Test.YtpifbpfmjmcchaaDoorLexMem
import Derived.Test.YtpifbpfmjmcchaaDoorGlyphCode
import Derived.Lib.OthersKept
namespace Go.Proofs.YtpifbpfmjmcchaaDoor
open Go Go.RowKit GlyphMath LexMath

theorem next_any {w : World} {X G sz : Nat} {xs : List Nat} (h : Rd w X G sz xs) :
    Calls Tryd.prog 26 #[.pointer (some ⟨X, 0, none⟩)] w fun e w' => e = .returned (.int .i32 (next xs : Int)) ∧ w = w' := by
  obtain ⟨o, c, h⟩ := h
  have c0 := h.cell0
  have c1 := h.next0
  obtain ⟨N, hN⟩ : ∃ N, xs.length + 1 = N := ⟨_, rfl⟩
  rw [hN] at c0
  have hN0 : (0 : Int) < (N : Int) := by omega
  clear hN h
  go_enter Tryd.func26, Tryd.ntmps26
  go_wp2_with fail
  go_ret
  exact ⟨rfl, rfl⟩
theorem at_any {w : World} {X G sz : Nat} {xs : List Nat} (h : Rd w X G sz xs) :
    Calls Tryd.prog 16 #[.pointer (some ⟨X, 0, none⟩)] w fun e w' => e = .returned (.int .i64 ((sz - (enc xs).length : Nat) : Int)) ∧ w = w' := by
  obtain ⟨o, c, h⟩ := h
  have c0 := h.cell0
  have c1 := h.at0
  obtain ⟨N, hN⟩ : ∃ N, xs.length + 1 = N := ⟨_, rfl⟩
  obtain ⟨A, hA⟩ : ∃ A, (sz - (enc xs).length : Nat) = A := ⟨_, rfl⟩
  rw [hN] at c0
  rw [hA] at c1 ⊢
  have hN0 : (0 : Int) < (N : Int) := by omega
  clear hN h hA
  go_enter Tryd.func16, Tryd.ntmps16
  go_wp2_with fail
  go_ret
  exact ⟨rfl, rfl⟩

/-- A step of a reader: nothing else has turned. -/
def RStep (w w' : World) (X G sz : Nat) (xs : List Nat) : Prop := Rd w' X G sz xs ∧ Kept (fun k => k = X) w w'

theorem take_any {w : World} {X G sz : Nat} {xs : List Nat} (h : Rd w X G sz xs) :
    Calls Tryd.prog 40 #[.pointer (some ⟨X, 0, none⟩)] w fun e w' => e = .returned (.int .i32 (next xs : Int)) ∧ RStep w w' X G sz xs.tail := by
  have HN := Lib.hid (next_any h)
  obtain ⟨o, c, h⟩ := h
  cases xs with
  | nil =>
    have HH := Lib.hid h
    clear h
    go_enter Tryd.func40, Tryd.ntmps40
    go_wp2_with (go_at_call 26; refine HN.out.mono ?_; rintro e w1 ⟨rfl, rfl⟩; simp only [next])
    go_ret
    exact ⟨rfl, ⟨o, c, HH.out⟩, Kept.refl _ _⟩
  | cons x r =>
    have c0 := h.cell0
    have f0 := h.frozen0
    have hd := h.drop 1 (by simp)
    simp only [List.drop_succ_cons, List.drop_zero, Nat.one_mul] at hd
    have hx : ((x : Int) != 0) = true := by
      have := (h.good x (by simp)).1
      have : ¬ (x : Int) = 0 := by omega
      simpa using this
    have hc := h.cap
    simp only [List.length_cons] at c0 hc
    obtain ⟨N, hN⟩ : ∃ N, r.length + 1 + 1 = N := ⟨_, rfl⟩
    rw [hN] at c0 hc
    have h1 : (1 : Int) ≤ (N : Int) := by omega
    have h2 : (N : Int) ≤ (c : Int) := by omega
    have h3 : (1 : Int) < (c : Int) := by omega
    have h4 : (c - 1 == 0) = false := by
      have : ¬ c - 1 = 0 := by omega
      simpa using this
    have HD := Lib.hid hd
    have HE := Lib.hid (show N - 1 = r.length + 1 by omega)
    clear h hd hN hc
    go_enter Tryd.func40, Tryd.ntmps40
    go_wp2_with (go_at_call 26; refine HN.out.mono ?_; rintro e w1 ⟨rfl, rfl⟩; simp only [next])
    go_ret
    exact ⟨rfl, ⟨o + 2, c - 1, by rw [HE.out]; exact HD.out⟩, Kept.setCell (D := fun k => k = X) (Kept.refl _ _) (.inl rfl) _⟩

theorem RStep.refl {w : World} {X G sz : Nat} {xs : List Nat} (h : Rd w X G sz xs) : RStep w w X G sz xs := ⟨h, Kept.refl _ _⟩
theorem RStep.trans {w w1 w2 : World} {X G sz : Nat} {xs ys : List Nat} (h : RStep w w1 X G sz xs) (k : RStep w1 w2 X G sz ys) : RStep w w2 X G sz ys := ⟨k.1, h.2.on k.2⟩
theorem RStep.below {w w1 w2 : World} {X G sz : Nat} {xs : List Nat} (h : RStep w w1 X G sz xs) (k : Below w1.heap.size w1 w2) : RStep w w2 X G sz xs :=
  ⟨h.1.kept (D := fun _ => False) (Kept.of_below k) (fun h => h) (fun h => h), h.2.on (Kept.of_below k)⟩
theorem Rd.below {w w' : World} {X G sz : Nat} {xs : List Nat} (h : Rd w X G sz xs) (k : Below w.heap.size w w') : Rd w' X G sz xs :=
  h.kept (D := fun _ => False) (Kept.of_below k) (fun h => h) (fun h => h)

theorem takes_step (ps xs : List Nat) (k : Nat) (c : Nat) (hk : ps[k]? = some c) (h0 : c ≠ 0) :
    (next (xs.drop k) = c → takes (ps.drop k) (xs.drop k) = takes (ps.drop (k + 1)) (xs.drop (k + 1)) ∧ k < xs.length) ∧ (next (xs.drop k) ≠ c → takes (ps.drop k) (xs.drop k) = none) := by
  have e : ps.drop k = c :: ps.drop (k + 1) := by
    obtain ⟨h1, h2⟩ := List.getElem?_eq_some_iff.1 hk
    rw [List.drop_eq_getElem_cons h1, h2]
  rw [e]
  by_cases hx : k < xs.length
  · rw [List.drop_eq_getElem_cons hx]
    simp only [next]
    refine ⟨fun h => ⟨?_, hx⟩, fun h => ?_⟩
    · rw [show takes (c :: ps.drop (k + 1)) (xs[k] :: xs.drop (k + 1)) = if c = xs[k] then takes (ps.drop (k + 1)) (xs.drop (k + 1)) else none from rfl, if_pos h.symm]
    · rw [show takes (c :: ps.drop (k + 1)) (xs[k] :: xs.drop (k + 1)) = if c = xs[k] then takes (ps.drop (k + 1)) (xs.drop (k + 1)) else none from rfl, if_neg (fun h' => h h'.symm)]
  · rw [List.drop_eq_nil_of_le (by omega)]
    refine ⟨fun h => absurd h.symm h0, fun _ => rfl⟩

set_option maxHeartbeats 1000000 in
theorem takes_any (p : ByteArray) (ps : List Nat) (hp : p.data.toList.map (·.toNat) = ps) (hlow : ∀ b ∈ p.data.toList, 0 < b.toNat ∧ b.toNat < 128) {w : World} {X G sz : Nat} {xs : List Nat} (h : Rd w X G sz xs) :
    Calls Tryd.prog 42 #[.pointer (some ⟨X, 0, none⟩), .string p] w fun e w' => e = .returned (.bool (takes ps xs).isSome) ∧ RStep w w' X G sz ((takes ps xs).getD xs) := by
  obtain ⟨o, c, h⟩ := h
  have HH := Lib.hid h
  have HP := Lib.hid hp
  have HL := Lib.hid hlow
  have HS := Lib.hid (show p.size = ps.length by rw [← hp, List.length_map]; rfl)
  clear h hp hlow
  have hit : ∀ k, Below w.heap.size w (w.iter p k) := fun k => below_iter w p k
  have HI := Lib.hid hit
  clear hit
  go_enter Tryd.func42, Tryd.ntmps42
  go_wp2_with fail
  go_loopw [5] (fun i wr => ∃ k : Nat, i = .int .i64 (k : Int) ∧ wr = w.iter p k ∧ k ≤ xs.length ∧ k ≤ ps.length ∧ takes ps xs = takes (ps.drop k) (xs.drop k)) (fun _ wr => p.size - wr.iterPos w.heap.size)
  case atStart => exact ⟨0, rfl, rfl, Nat.zero_le _, Nat.zero_le _, rfl⟩
  case round =>
    obtain ⟨k, rfl, rfl, hkx, hkp, ht⟩ := hrel
    by_cases hpk : k < p.size
    · obtain ⟨b, hb⟩ : ∃ b, (p[k]'hpk).toNat = b := ⟨_, rfl⟩
      have hmem : p[k]'hpk ∈ p.data.toList := by
        rw [ByteArray.getElem_eq_getElem_data]
        exact Array.getElem_mem_toList ..
      have hbl := HL.out _ hmem
      rw [hb] at hbl
      have hnx : ∀ ty, (Instr.next (.pointer (some ⟨w.heap.size, 0, none⟩)) true ty).run Tryd.prog (w.iter p k) = .ok (.tuple #[.bool true, .int .i64 k, .int .i32 (b : Int)]) (w.iter p (k + 1)) := fun ty => by rw [run_next_any w p k ty hpk, decode_ascii p k hpk (by rw [hb]; exact hbl.2), hb]
      have hps : ps[k]? = some b := by
        rw [← HP.out, List.getElem?_map, List.getElem?_eq_getElem (by rw [Array.length_toList]; exact hpk)]
        simp only [Option.map_some, Option.some.injEq]
        rw [← hb, ByteArray.getElem_eq_getElem_data, Array.getElem_toList]
      obtain ⟨s1, s2⟩ := takes_step ps xs k b hps (by omega)
      have hR := HH.out.kept (D := fun _ => False) (Kept.of_below (HI.out (k + 1))) (fun h => h) (fun h => h)
      have c0 := hR.cell0
      have c1 := hR.letter k hkx
      obtain ⟨N, hN⟩ : ∃ N, xs.length + 1 = N := ⟨_, rfl⟩
      rw [hN] at c0
      have hkN : (k : Int) < (N : Int) := by omega
      have hk1 : (k : Int) + 1 ≤ 9223372036854775807 := by have := HH.out.few; omega
      obtain ⟨y, hy⟩ : ∃ y, next (xs.drop k) = y := ⟨_, rfl⟩
      rw [hy] at c1 s1 s2
      by_cases hyb : y = b
      · obtain ⟨t1, t2⟩ := s1 hyb
        have HT := Lib.hid (And.intro (ht.trans t1) (And.intro t2 (show k + 1 ≤ ps.length from (List.getElem?_eq_some_iff.1 hps).1)))
        have hne : ((y : Int) != (b : Int)) = false := by simp [hyb]
        clear hb hmem hbl hps s1 s2 hR hN ht t1 t2 hy hyb
        go_wp2_with fail
        go_roundw
        case rel => exact ⟨k + 1, rfl, rfl, by have := HT.out.2.1; omega, HT.out.2.2, HT.out.1⟩
        case measure => simp; omega
      · have HT := Lib.hid (ht.trans (s2 hyb))
        have HR := Lib.hid hR
        have hne : ((y : Int) != (b : Int)) = true := by
          have : ¬ (y : Int) = (b : Int) := by omega
          simpa using this
        clear hb hmem hbl hps s1 s2 hR hN ht hy hyb
        go_wp2_with fail
        go_ret
        rw [HT.out]
        exact ⟨rfl, ⟨o, c, HR.out⟩, Kept.of_below (HI.out (k + 1))⟩
    · have hnx : ∀ ty, (Instr.next (.pointer (some ⟨w.heap.size, 0, none⟩)) true ty).run Tryd.prog (w.iter p k) = _ := fun ty => run_next_end w p k ty hpk
      have hke : k = ps.length := by have := HS.out; omega
      rw [hke, List.drop_length, ← hke] at ht
      have hR := HH.out.kept (D := fun _ => False) (Kept.of_below (HI.out k)) (fun h => h) (fun h => h)
      have c0 := hR.cell0
      have f0 := hR.frozen0
      have hd := hR.drop k hkx
      have hc := hR.cap
      obtain ⟨N, hN⟩ : ∃ N, xs.length + 1 = N := ⟨_, rfl⟩
      rw [hN] at c0 hc
      have h0 : (0 : Int) ≤ (k : Int) := by omega
      have h1 : (k : Int) ≤ (N : Int) := by omega
      have h2 : (N : Int) ≤ (c : Int) := by omega
      have h3 : (k : Int) < (c : Int) := by omega
      have h4 : (c - k == 0) = false := by
        have : ¬ c - k = 0 := by omega
        simpa using this
      have HD := Lib.hid hd
      have HE := Lib.hid (show N - k = (xs.drop k).length + 1 by simp; omega)
      have HT := Lib.hid (show takes ps xs = some (xs.drop k) from ht)
      clear hR hd hN hc ht hke hkx hkp
      go_wp2_with fail
      go_ret
      rw [HT.out]
      exact ⟨rfl, ⟨o + k * 2, c - k, by rw [HE.out]; exact HD.out⟩, Kept.setCell (D := fun k => k = X) (Kept.of_below (HI.out k)) (.inl rfl) _⟩
end Go.Proofs.YtpifbpfmjmcchaaDoor
