/-
  Proved: what the laws of chapter 3 share: a sector's bytes made of any bytes, the law's own check of the chapter's example. Conditions: the bytes can be read.
-/
import Derived.Test.YtjeplggpogjlpaaDiskApi
import Derived.Laws.BytesArg
namespace Go.Proofs.Ytjeplggpogjlpaa
open Go Go.RowKit DiskMath NetMem

/-- A sector that begins with l. -/
def pad (l : List UInt8) : List UInt8 := l.take 16 ++ List.replicate (16 - l.length) 0
theorem pad_length (l : List UInt8) : (pad l).length = 16 := by simp [pad]; omega

theorem setCells_nil (w : World) (b o : Nat) : w.setCells b o [] = w := rfl

/-- What whole leaves. -/
theorem whole_own (w : World) (l : List UInt8) : Own ((w.alloc (.cells (madeCells #[.int .u8 0] 16) 5)).setCells w.heap.size 0 (Lib.byteCells (l.take 16))) w.heap.size (.slice (some ⟨w.heap.size, 0, none⟩) 16 16) (pad l) := by
  have hz : ∀ j, j < 16 → (madeCells #[Value.int .u8 0] 16)[j]? = some (.int .u8 0) := fun j hj => by
    simp [madeCells, hj, Nat.mod_one]
  have hs := setCells_same w.heap.size (Lib.byteCells (l.take 16)) 0 (w.alloc (.cells (madeCells #[.int .u8 0] 16) 5))
  have hin := World.cell?_setCells_in w.heap.size (Lib.byteCells (l.take 16)) 0 (w.alloc (.cells (madeCells #[.int .u8 0] 16) 5)) (fun j hj => by
    rw [bl, List.length_take] at hj
    rw [new_cell, Nat.zero_add, hz j (by omega)]; rfl)
  have hout : ∀ j, (l.take 16).length ≤ j → ((w.alloc (.cells (madeCells #[.int .u8 0] 16) 5)).setCells w.heap.size 0 (Lib.byteCells (l.take 16))).cell? ⟨w.heap.size, j, none⟩ = (w.alloc (.cells (madeCells #[.int .u8 0] 16) 5)).cell? ⟨w.heap.size, j, none⟩ := fun j hj =>
    World.cell?_setCells_out _ _ _ _ ⟨w.heap.size, j, none⟩ (fun _ _ => .inr (by rw [bl]; show 0 + (l.take 16).length ≤ j; omega))
  have hall : ∀ j (h : j < (pad l).length), ((w.alloc (.cells (madeCells #[.int .u8 0] 16) 5)).setCells w.heap.size 0 (Lib.byteCells (l.take 16))).cell? ⟨w.heap.size, j, none⟩ = some (.int .u8 ((pad l)[j].toNat : Int)) := fun j h => by
    have h16 : j < 16 := by rw [pad_length] at h; exact h
    rcases Nat.lt_or_ge j (l.take 16).length with hj | hj
    · have := hin j (by rw [bl]; exact hj)
      rw [Nat.zero_add] at this
      rw [this]
      simp only [pad, List.getElem_append_left hj, Lib.byteCells, List.getElem_map]
    · rw [hout j hj, new_cell, hz j h16]
      simp only [pad, List.getElem_append_right hj, List.getElem_replicate]
      rfl
  refine .inr ⟨w.heap.size, 16, by rw [pad_length], Nat.le_refl _, by rw [hs.2.2.2.1]; simp, by rw [pad_length]; exact Nat.le_refl _, by unfold maxLen; omega, fun j hj => ⟨?_, ?_⟩, hall⟩
  · rw [hall j (by rw [pad_length]; exact hj)]; rfl
  · rw [World.frozen?_setCells, new_free]

theorem madeByte (w : World) : (Instr.makeSlice 22 (.int .i64 16) (.int .i64 16)).run Try.prog w = .ok (.slice (some ⟨w.heap.size, 0, none⟩) 16 16) (w.alloc (.cells (madeCells #[.int .u8 0] 16) 5)) := by
  obtain ⟨i0, hi, hz0, hz1, hz2⟩ := info_parts info5
  have := run_make (P := Try.prog) w 22 5 i0 (.int .u8 0) Try.underlying22 hi hz0 .i64 .i64 16 16 (by omega) (Int.le_refl _) (by rw [hz2]; omega) (by omega)
  simpa [hz1, Value.cells] using this

set_option maxHeartbeats 1000000 in
theorem whole_any (p : Option Addr) (c : Nat) (l : List UInt8) (w : World) (h : Row w (.slice p l.length c) l) :
    Calls Try.prog 9 #[.slice p l.length c] w fun e w' => ∃ v, e = .returned v ∧ Own w' w.heap.size v (pad l) ∧ Below w.heap.size w w' := by
  have hmk := madeByte
  have HO := Lib.hid (whole_own w l)
  have HB := Lib.hid (show Below w.heap.size w ((w.alloc (.cells (madeCells #[.int .u8 0] 16) 5)).setCells w.heap.size 0 (Lib.byteCells (l.take 16))) from
    (Kept.setCells (D := fun _ => False) ((Kept.refl _ w).alloc _) (.inr (Nat.le_refl _)) _ _).below (fun _ h => h.elim) (Nat.le_refl _))
  rcases Nat.eq_zero_or_pos l.length with h0 | h0
  · obtain rfl : l = [] := List.eq_nil_of_length_eq_zero h0
    have hcp := fun (w : World) (a b : Option Addr) (n c : Nat) => run_copy_none (P := Try.prog) w 22 22 3 5 a b n n 0 c Try.underlying22 sizeByte (by simp)
    clear h
    go_enter Try.func9, Try.ntmps9
    go_wp2_with fail
    go_ret
    exact ⟨_, rfl, HO.out, HB.out⟩
  · obtain ⟨hl, hlc, hcm, hcc⟩ := Row.nums h
    obtain ⟨b, o, rfl, hc⟩ := hcc (by omega)
    have HC := Lib.hid (show (Lib.byteCells (l.take 16)).length = Nat.min l.length 16 ∧ (∀ j v, (Lib.byteCells (l.take 16))[j]? = some v → (w.alloc (.cells (madeCells #[.int .u8 0] 16) 5)).cell? ((⟨b, o, none⟩ : Addr).add j) = some v) ∧
        (w.alloc (.cells (madeCells #[.int .u8 0] 16) 5)).there w.heap.size 0 (Lib.byteCells (l.take 16)).length from ⟨by
          rw [bl, List.length_take]; exact Nat.min_comm _ _, fun j v hv => by
          have hj : j < (l.take 16).length := by have := (List.getElem?_eq_some_iff.1 hv).1; rwa [bl] at this
          have hj' : j < l.length := by rw [List.length_take] at hj; omega
          rw [bc_at _ j hj] at hv
          rw [Lib.add_plain, World.cell?_alloc_lt _ _ _ (World.block_lt_of_cell? w _ (hc j hj')), hc j hj', ← hv, List.getElem_take], fun j hj => by
          rw [bl, List.length_take] at hj
          refine ⟨?_, new_free _ _ _ _⟩
          rw [new_cell, Nat.zero_add]
          have : j < (madeCells #[Value.int .u8 0] 16).size := by rw [size_madeCells]; omega
          simp [this]⟩)
    clear h hc hcc hl
    go_enter Try.func9, Try.ntmps9
    go_wp2_with (refine wpList_copy_cells (by rfl) (.tmp 5) (.tmp 6) 22 22 (by rfl) 5 Try.underlying22 sizeByte w.heap.size 0 16 16 ⟨b, o, none⟩ l.length c (by rfl) (by rfl) (Lib.byteCells (l.take 16)) HC.out.1 HC.out.2.1 HC.out.2.2 (oneCell_bytes _) ?_)
    go_wp2_with fail
    go_ret
    exact ⟨_, rfl, HO.out, HB.out⟩

/-! ### The example -/
def knownB : List UInt8 := [7, 8, 0, 0, 0, 0, 0, 0, 0, 0, 0, 0, 0, 0, 0, 0]
def zeroB : List UInt8 := List.replicate 16 0
def known1 : Dk := (Dk.new 2).arm 1 [1]
def known2 : Dk := { s := [(zeroB, knownB), (zeroB, zeroB)], p := [(0, knownB)], n := 1, armed := true, at_ := 1, left := [1], down := false }
def known3 : Dk := { s := [(7 :: List.replicate 15 0, 7 :: List.replicate 15 0), (zeroB, zeroB)], p := [], n := 1, armed := false, at_ := 0, left := [], down := true }
theorem known_w1 : known1.write 0 knownB = (0, known2) := by rfl
theorem known_w2 : known2.write 1 knownB = (5, known3) := by rfl
theorem known_r : known3.read 0 = 7 :: List.replicate 15 0 := by rfl

theorem keeps_new (w : World) (z : Int) (e : TypeId) : KeepsAt (w.alloc (.cells #[.int .i64 z] e)) (.slice (some ⟨w.heap.size, 0, none⟩) 1 1) [z] :=
  .inr ⟨_, 0, 1, rfl, fun k hk => by
    obtain rfl : k = 0 := by simpa using hk
    exact new_cell w #[.int .i64 z] e 0⟩

theorem madeByte' (w : World) : (Instr.makeSlice 22 (.int .i64 16) (.int .i64 16)).run Try.prog w = .ok (.slice (some ⟨w.heap.size, 0, none⟩) 16 16)
    (w.alloc (.cells #[.int .u8 0, .int .u8 0, .int .u8 0, .int .u8 0, .int .u8 0, .int .u8 0, .int .u8 0, .int .u8 0, .int .u8 0, .int .u8 0, .int .u8 0, .int .u8 0, .int .u8 0, .int .u8 0, .int .u8 0, .int .u8 0] 5)) := by
  have e : madeCells #[Value.int .u8 0] 16 = #[.int .u8 0, .int .u8 0, .int .u8 0, .int .u8 0, .int .u8 0, .int .u8 0, .int .u8 0, .int .u8 0, .int .u8 0, .int .u8 0, .int .u8 0, .int .u8 0, .int .u8 0, .int .u8 0, .int .u8 0, .int .u8 0] := by kernel_rfl
  rw [madeByte, e]

theorem own_some {w : World} {B : Nat} {v : Value} {l : List UInt8} (h : Own w B v l) (h0 : 0 < l.length) :
    ∃ q cap, v = .slice (some ⟨q, 0, none⟩) l.length cap ∧ l.length ≤ cap ∧ cap ≤ 9223372036854775807 ∧ ∀ j (h : j < l.length), w.cell? ⟨q, j, none⟩ = some (.int .u8 (l[j].toNat : Int)) := by
  rcases h with ⟨-, rfl⟩ | ⟨g, cap, rfl, -, -, h1, h2, -, h4⟩
  · simp at h0
  · exact ⟨g, cap, rfl, h1, by unfold maxLen at h2; omega, h4⟩

set_option maxHeartbeats 2000000 in
theorem known_any (w : World) :
    Calls Try.prog 17 #[] w fun e w' => e = .returned (.bool true) ∧ Below w.heap.size w w' := by
  have hmk := madeByte'
  go_enter Try.func17, Try.ntmps17
  go_wp2_with fail
  refine (new_st 2 (by omega) 2 rfl w).mono ?_
  rintro e w1 ⟨g, rfl, h1⟩
  have H1 := Lib.hid (h1.below ((Below.refl _ w1).alloc (Nat.le_refl _) (.cells #[.int .i64 1] 31)))
  have HK := Lib.hid (keeps_new w1 1 31)
  clear h1
  go_wp2_with fail
  refine (arm_st H1.out 1 HK.out (by decide) (show (Dk.new 2).arm 1 [1] = known1 from rfl)).mono ?_
  rintro e w2 ⟨rfl, h2⟩
  have H2 := Lib.hid h2
  clear h2
  go_wp2_with fail
  have HX := Lib.hid (Own.made w2 5 knownB 16 (by decide) (by simp [maxLen]) (Lib.byteCells knownB).toArray rfl (fun j h => (by simpa using bc_at knownB j h)) w2.heap.size (Nat.le_refl _))
  refine (write_st (l := knownB) (H2.out.more ((Below.refl _ w2).alloc (Nat.le_refl _) _) HX.out) 0 (Own.row HX.out) known_w1 (by decide) (by decide)).mono ?_
  rintro e w3 ⟨rfl, h3⟩
  have H3 := Lib.hid h3
  clear h3
  go_wp2_with fail
  refine (write_st H3.out 1 (H3.out.row (List.mem_cons_self)).row known_w2 (by decide) (by decide)).mono ?_
  rintro e w4 ⟨rfl, h4⟩
  have H4 := Lib.hid h4
  clear h4
  go_wp2_with fail
  refine (read_st H4.out 0 known_r).mono ?_
  rintro e w5 ⟨v, rfl, h5⟩
  have H5 := Lib.hid h5
  clear h5
  obtain ⟨q, cap, rfl, hcap, hcm, hc⟩ := own_some (H5.out.row (List.mem_cons_self)) (by decide)
  have c0 := hc 0 (by decide)
  have c1 := hc 1 (by decide)
  clear hc
  go_wp2_with fail
  refine (down_st H5.out (show known3.down = true from rfl)).mono ?_
  rintro e w6 ⟨rfl, rfl⟩
  go_wp2_with fail
  go_ret
  exact ⟨rfl, H5.out.old⟩
end Go.Proofs.Ytjeplggpogjlpaa
