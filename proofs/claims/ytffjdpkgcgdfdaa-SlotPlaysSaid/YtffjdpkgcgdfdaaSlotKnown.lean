/-
  Proved: Save on a disk that goes on and is not armed is well, and what is loaded behind it; the laws' own check of the chapter's example answers true. Conditions: as each says.
-/
import Derived.Test.YtffjdpkgcgdfdaaSlotCode
import Derived.Lib.SlBytesConst
namespace Go.Proofs.Ytffjdpkgcgdfdaa
open Go Go.RowKit DiskMath NetMem SpanMath SumMath

/-! ### A disk that goes on and is not armed -/
def slotOf (d : Dk) (gen : Nat) : Nat := gen % 2 * room d
def saved (d : Dk) (gen : Nat) (b : List UInt8) : Dk := done (d.put (slotOf d gen) zeroB).flushed (slotOf d gen) gen b
theorem slotOf_le (d : Dk) (gen : Nat) : slotOf d gen ≤ room d := by
  unfold slotOf
  rcases Nat.mod_two_eq_zero_or_one gen with h | h <;> rw [h] <;> omega
theorem slotOf_far (d : Dk) (gen : Nat) : slotOf d gen + room d ≤ d.s.length := by
  have := slotOf_le d gen
  unfold room at *; omega
theorem saved_len (d : Dk) (gen : Nat) (b : List UInt8) : (saved d gen b).s.length = d.s.length := by unfold saved; rw [done_len, flushed_len, put_len]
theorem saved_room (d : Dk) (gen : Nat) (b : List UInt8) : room (saved d gen b) = room d := by unfold room; rw [saved_len]
theorem saved_down (d : Dk) (gen : Nat) (b : List UInt8) : (saved d gen b).down = d.down := by unfold saved; rw [done_down]; rfl
theorem saved_armed (d : Dk) (gen : Nat) (b : List UInt8) : (saved d gen b).armed = d.armed := by unfold saved; rw [done_armed]; rfl
theorem saved_p (d : Dk) (gen : Nat) (b : List UInt8) : (saved d gen b).p = [] := rfl
theorem saved_n (d : Dk) (gen : Nat) (b : List UInt8) : (saved d gen b).n = d.n + cnt b.length + 5 := by
  unfold saved
  rw [done_n]
  show d.n + 1 + 1 + _ + 3 = _
  omega

theorem save_well (d : Dk) (gen : Nat) (b : List UInt8) (hd : d.down = false) (ha : d.armed = false) (h1 : 1 ≤ gen) (h2 : gen ≤ 2147483647) (hr : need b.length ≤ room d) : slotSave d (gen : Int) b = (0, saved d gen b) := by
  have hat : (gen : Int) % 2 * (room d : Int) = ((slotOf d gen : Nat) : Int) := by unfold slotOf; simp
  have hfar := slotOf_far d gen
  have hn : need b.length = 1 + cnt b.length := rfl
  unfold slotSave
  rw [if_neg (by omega), if_neg (by omega), hat, clear_well d _ hd ha (by omega), if_neg (by simp), Int.toNat_natCast]
  exact put_well _ _ _ _ _ hd ha (by omega) (by rw [flushed_len, put_len]; omega)
theorem saved_here (d : Dk) (gen : Nat) (b : List UInt8) (hr : need b.length ≤ room d) : Here (saved d gen b) (slotOf d gen) gen b := by
  have hfar := slotOf_far d gen
  have hn : need b.length = 1 + cnt b.length := rfl
  exact done_here _ _ _ _ (by rw [flushed_len, put_len]; omega)
theorem saved_la (d : Dk) (gen : Nat) (b : List UInt8) (hr : need b.length ≤ room d) (k : Nat) (hk : k < slotOf d gen ∨ slotOf d gen + room d ≤ k) : la (saved d gen b) k = la d k := by
  have hfar := slotOf_far d gen
  have hn : need b.length = 1 + cnt b.length := rfl
  unfold saved
  rw [done_la _ _ _ _ _ (by rw [flushed_len, put_len]; omega), if_neg (by omega), if_neg (by omega), flushed_la, put_la _ _ _ _ (by omega), if_neg (by omega)]
theorem saved_get (d : Dk) (gen : Nat) (b : List UInt8) (h1 : 1 ≤ gen) (h2 : gen ≤ 2147483647) (hb : b.length < 4294967296) (hr : need b.length ≤ room d) : spanGet (saved d gen b) (slotOf d gen : Nat) (room d : Nat) = some (gen, b) := by
  have hfar := slotOf_far d gen
  have hn : need b.length = 1 + cnt b.length := rfl
  exact get_here _ _ _ _ _ (saved_here d gen b hr) (by omega) (by omega) hb (by rw [saved_len]; omega) (by omega)
theorem saved_other (d : Dk) (gen : Nat) (b : List UInt8) (hr : need b.length ≤ room d) {at_ t : Nat} {a : List UInt8} (h : Here d at_ t a) (hf : at_ + cnt a.length < slotOf d gen ∨ slotOf d gen + room d ≤ at_) : Here (saved d gen b) at_ t a :=
  here_of h fun k k1 k2 => saved_la d gen b hr k (by omega)

/-- ONE SAVE, of an odd generation, on a new disk: it is loaded. -/
theorem load_one (n gen : Nat) (b : List UInt8) (hodd : gen % 2 = 1) (h2 : gen ≤ 2147483647) (hb : b.length < 4294967296) (hr : need b.length ≤ n * 3 / 8) : slotLoad (saved (Dk.new n) gen b) = some (gen, b) := by
  have hroom : room (Dk.new n) = n * 3 / 8 := by unfold room; simp [Dk.new]
  have hat : slotOf (Dk.new n) gen = n * 3 / 8 := by unfold slotOf; rw [hodd, hroom, Nat.one_mul]
  have hn : need b.length = 1 + cnt b.length := rfl
  have hfar := slotOf_far (Dk.new n) gen
  have hlen : (Dk.new n).s.length = n := by simp [Dk.new]
  have g1 := saved_get (Dk.new n) gen b (by omega) h2 hb (by omega)
  have g0 : spanGet (saved (Dk.new n) gen b) ((0 : Nat) : Int) (room (Dk.new n) : Nat) = none := by
    refine get_zero _ 0 _ (by rw [saved_len]; omega) ?_
    rw [saved_la _ _ _ (by omega) 0 (by omega)]
    exact new_la n 0 (by omega)
  unfold slotLoad
  rw [saved_room]
  rw [hat, ← hroom] at g1
  rw [g1]
  show better (better none (spanGet (saved (Dk.new n) gen b) ((0 : Nat) : Int) (room (Dk.new n) : Nat))) (some (gen, b)) = _
  rw [g0]
  show better none (some (gen, b)) = _
  unfold better genOf
  simp
  omega
/-- TWO SAVES, 1 and 2: the second one is loaded. -/
theorem load_two (n : Nat) (a b : List UInt8) (ha : need a.length ≤ n * 3 / 8) (hb : need b.length ≤ n * 3 / 8) (ha' : a.length < 4294967296) (hb' : b.length < 4294967296) : slotLoad (saved (saved (Dk.new n) 1 a) 2 b) = some (2, b) := by
  have hroom : room (Dk.new n) = n * 3 / 8 := by unfold room; simp [Dk.new]
  have hroom1 : room (saved (Dk.new n) 1 a) = n * 3 / 8 := by rw [saved_room, hroom]
  have hroom2 : room (saved (saved (Dk.new n) 1 a) 2 b) = n * 3 / 8 := by rw [saved_room, hroom1]
  have hat : slotOf (Dk.new n) 1 = n * 3 / 8 := by unfold slotOf; rw [hroom]; omega
  have hat2 : slotOf (saved (Dk.new n) 1 a) 2 = 0 := by unfold slotOf; omega
  have hna : need a.length = 1 + cnt a.length := rfl
  have hnb : need b.length = 1 + cnt b.length := rfl
  have hlen : (Dk.new n).s.length = n := by simp [Dk.new]
  have g0 := saved_get (saved (Dk.new n) 1 a) 2 b (by omega) (by omega) hb' (by omega)
  rw [hat2, hroom1] at g0
  have h1 := saved_here (Dk.new n) 1 a (by omega)
  rw [hat] at h1
  have h2 := saved_other (saved (Dk.new n) 1 a) 2 b (by omega) h1 (by rw [hat2, hroom1]; omega)
  have g1 : spanGet (saved (saved (Dk.new n) 1 a) 2 b) ((n * 3 / 8 : Nat) : Int) ((n * 3 / 8 : Nat) : Int) = some (1, a) :=
    get_here _ _ _ _ _ h2 (by omega) (by omega) ha' (by rw [saved_len, saved_len, hlen]; omega) (by omega)
  unfold slotLoad
  rw [hroom2, g1]
  show better (better none (spanGet (saved (saved (Dk.new n) 1 a) 2 b) ((0 : Nat) : Int) ((n * 3 / 8 : Nat) : Int))) (some (1, a)) = _
  rw [g0]
  simp [better, genOf]

/-! ### The example -/
def oneB (c : UInt8) : List UInt8 := [c]
theorem one_own (w : World) (e : TypeId) (c : UInt8) : NetMem.Own (w.alloc (.cells #[.int .u8 (c.toNat : Int)] e (1, 2))) w.heap.size (.slice (some ⟨w.heap.size, 0, none⟩) 1 1) (oneB c) := by
  refine .inr ⟨w.heap.size, 1, rfl, Nat.le_refl _, by simp, by simp [oneB], by simp [maxLen], fun j hj => ⟨?_, ?_⟩, fun j hj => ?_⟩
  · rw [World.cell?_alloc_mark w _ e (1, 2)]
    have : j < 1 := hj
    simp [this]
  · rw [World.frozen?_alloc_mark w _ e 1 2 j]
    simp; omega
  · rw [World.cell?_alloc_mark w _ e (1, 2)]
    obtain rfl : j = 0 := by simp [oneB] at hj; omega
    simp [oneB]
theorem one_text (c : UInt8) : (⟨(oneB c).toArray⟩ : ByteArray) = ⟨#[c]⟩ := rfl
theorem ex_save1 : slotSave (Dk.new 24) 1 (oneB 97) = (0, saved (Dk.new 24) 1 (oneB 97)) := save_well (Dk.new 24) 1 (oneB 97) rfl rfl (by omega) (by omega) (by decide)
theorem ex_save2 : slotSave (saved (Dk.new 24) 1 (oneB 97)) 2 (oneB 98) = (0, saved (saved (Dk.new 24) 1 (oneB 97)) 2 (oneB 98)) := save_well _ 2 (oneB 98) (by rw [saved_down]; rfl) (by rw [saved_armed]; rfl) (by omega) (by omega) (by rw [saved_room]; decide)
theorem ex_load : slotLoad (saved (saved (Dk.new 24) 1 (oneB 97)) 2 (oneB 98)) = some (2, oneB 98) := load_two 24 _ _ (by decide) (by decide) (by decide) (by decide)
theorem ex_room : room (saved (saved (Dk.new 24) 1 (oneB 97)) 2 (oneB 98)) = 9 := by rw [saved_room, saved_room]; decide

set_option maxHeartbeats 2000000 in
set_option maxRecDepth 100000 in
theorem known_any (w : World) :
    Calls Try.prog 19 #[] w fun e w' => e = .returned (.bool true) ∧ Below w.heap.size w w' := by
  have kc := fun (w : World) (C : Array Value) (n c : Nat) => Lib.run_convert_bytes_const (P := Try.prog) w 27 5 C n c Try.underlying27 Try.underlying5
  go_enter Try.func19, Try.ntmps19
  go_wp2_with fail
  refine (new_st 24 (by omega) 24 rfl w).mono ?_
  rintro e w1 ⟨g, rfl, h1⟩
  have hb1 : Below w1.heap.size w1 (w1.alloc (.cells #[.int .u8 97] 5 (1, 2))) := (Below.refl _ _).alloc (Nat.le_refl _) _
  have H1 := Lib.hid (h1.more hb1 (one_own w1 5 97))
  clear h1 hb1
  go_wp2_with fail
  refine (save_own_st H1.out 1 (List.mem_cons_self) ex_save1 (by decide) (by decide) (by decide)).mono ?_
  rintro e w2 ⟨rfl, h2⟩
  have hb2 : Below w2.heap.size w2 (w2.alloc (.cells #[.int .u8 98] 5 (1, 2))) := (Below.refl _ _).alloc (Nat.le_refl _) _
  have H2 := Lib.hid (h2.more hb2 (one_own w2 5 98))
  clear h2 hb2
  go_wp2_with fail
  refine (save_own_st H2.out 2 (List.mem_cons_self) ex_save2 (by decide) (by rw [saved_n]; decide) (by rw [saved_p]; decide)).mono ?_
  rintro e w3 ⟨rfl, h3⟩
  have H3 := Lib.hid h3
  clear h3
  go_wp2_with fail
  refine (load_st H3.out (z := 2) (ok := true) (B := oneB 98) ex_load rfl rfl rfl).mono ?_
  rintro e w4 ⟨a, c, rfl, h4⟩
  have hcv := conv_any (h4.row List.mem_cons_self).row
  rw [one_text] at hcv
  have H4 := Lib.hid h4
  clear h4
  go_wp2_with fail
  refine (room_st H4.out (z := 9) (by rw [ex_room]; rfl)).mono ?_
  rintro e w5 ⟨rfl, rfl⟩
  go_wp2_with fail
  go_ret
  exact ⟨rfl, H4.out.old⟩
end Go.Proofs.Ytffjdpkgcgdfdaa
