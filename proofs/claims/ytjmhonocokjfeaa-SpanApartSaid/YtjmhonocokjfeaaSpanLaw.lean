/-
  Proved: span's Put, Get, Clear by their model, beside rows of bytes; the laws' own check of the chapter's example. Conditions: as each says.
-/
import Derived.Test.YtjmhonocokjfeaaSpanGet
import Derived.Laws.BytesArg
import Derived.Lib.SlBytesConst
namespace Go.Proofs.Ytjmhonocokjfeaa
open Go Go.RowKit DiskMath NetMem SpanMath SumMath

theorem get_at {w : World} {D : Nat → Prop} {p : Value} {d : Dk} (h : DiskAt w D p d) (at_ room : Int) :
    Calls Try.prog 14 #[p, .int .i64 at_, .int .i64 room] w (GetSaid (spanGet d at_ room) w) := by
  by_cases hi : d.has at_ = true
  · have hb : 0 ≤ at_ ∧ at_ < (d.s.length : Int) := by simpa [Dk.has] using hi
    obtain ⟨a, rfl⟩ := Int.eq_ofNat_of_zero_le hb.1
    exact get_in h a room (by omega)
  · have hi' : d.has at_ = false := by simpa using hi
    exact (get_out h at_ room hi').mono fun e w' ⟨he, hw⟩ => by
      subst hw; subst he
      exact getSaid_none (by unfold spanGet; rw [if_pos hi']) (Below.refl _ _)

/-! ### Beside rows -/
/-- A row that was there when the call began. -/
theorem rowO_old {w0 W : World} {D : Nat → Prop} {v : Value} {l : List UInt8} (hb : Below w0.heap.size w0 W) (hD : ∀ k, D k → w0.heap.size ≤ k) (hr : Row w0 v l) : RowO W D v l :=
  ⟨hr.below hb, fun b o n c hv h0 hd => by
    subst hv
    have := row_cell hr h0
    have := hD b hd
    omega⟩
/-- A row that the call owns. -/
theorem rowO_own {w0 W : World} {D : Nat → Prop} {v : Value} {l : List UInt8} (ho : NetMem.Own W w0.heap.size v l) (hn : ∀ k, v.ownBlock = some k → ¬ D k) : RowO W D v l :=
  ⟨ho.row, fun b o n c hv _ hd => hn b (by rw [hv]; rfl) hd⟩

theorem put_st {w0 W : World} {p : Value} {d d' : Dk} {rows : List (Value × List UInt8)} (h : St w0 W p d rows) (at_ room : Int) (ha : -9223372036854775808 ≤ at_) (hb : at_ ≤ 4611686018427387904) (tag : Nat) (ht : tag < 4294967296) (z : Int) (hz : (tag : Int) = z)
    {q : Option Addr} {c : Nat} {l : List UInt8} (hr : Row w0 (.slice q l.length c) l) {e0 : Int} (he : spanPut d at_ room tag l = (e0, d')) (hl : l.length ≤ 2147483648) (hn : d.n + l.length + 4 < 4611686018427387904) (hp : d.p.length + l.length + 4 < 4294967296) :
    Calls Try.prog 11 #[p, .int .i64 at_, .int .i64 room, .int .u32 z, .slice q l.length c] W fun e w' => e = .returned (.int .i64 e0) ∧ St w0 w' p d' rows := by
  obtain ⟨D, hd, hbw, hD, hrr⟩ := h
  subst hz
  have := put_at hd at_ room ha hb tag ht q c l (rowO_old hbw hD hr) hl hn hp
  rw [he] at this
  exact this.mono fun e w' ⟨h1, h2⟩ => ⟨h1, St.of_step hbw hD hrr h2⟩
theorem put_own_st {w0 W : World} {p : Value} {d d' : Dk} {rows : List (Value × List UInt8)} (h : St w0 W p d rows) (at_ room : Int) (ha : -9223372036854775808 ≤ at_) (hb : at_ ≤ 4611686018427387904) (tag : Nat) (ht : tag < 4294967296) (z : Int) (hz : (tag : Int) = z)
    {q : Option Addr} {n c : Nat} {l : List UInt8} (hr : (.slice q n c, l) ∈ rows) {e0 : Int} (he : spanPut d at_ room tag l = (e0, d')) (hl : l.length ≤ 2147483648) (hn : d.n + l.length + 4 < 4611686018427387904) (hp : d.p.length + l.length + 4 < 4294967296) :
    Calls Try.prog 11 #[p, .int .i64 at_, .int .i64 room, .int .u32 z, .slice q n c] W fun e w' => e = .returned (.int .i64 e0) ∧ St w0 w' p d' rows := by
  obtain ⟨D, hd, hbw, hD, hrr⟩ := h
  subst hz
  have hro : NetMem.Own W w0.heap.size (.slice q n c) l ∧ ∀ k, (Value.slice q n c).ownBlock = some k → ¬ D k := hrr _ hr
  obtain ⟨rfl, -⟩ := Row.nums hro.1.row
  have := put_at hd at_ room ha hb tag ht q c l (rowO_own hro.1 hro.2) hl hn hp
  rw [he] at this
  exact this.mono fun e w' ⟨h1, h2⟩ => ⟨h1, St.of_step hbw hD hrr h2⟩
theorem clear_st {w0 W : World} {p : Value} {d d' : Dk} {rows : List (Value × List UInt8)} (h : St w0 W p d rows) (at_ : Int) {e0 : Int} (he : spanClear d at_ = (e0, d')) (hn : d.n + 1 < 4611686018427387904) (hp : d.p.length < 4294967296) :
    Calls Try.prog 16 #[p, .int .i64 at_] W fun e w' => e = .returned (.int .i64 e0) ∧ St w0 w' p d' rows := by
  obtain ⟨D, hd, hbw, hD, hrr⟩ := h
  have := clear_at hd at_ hn hp
  rw [he] at this
  exact this.mono fun e w' ⟨h1, h2⟩ => ⟨h1, St.of_step hbw hD hrr h2⟩
theorem get_some_st {w0 W : World} {p : Value} {d : Dk} {rows : List (Value × List UInt8)} (h : St w0 W p d rows) (at_ room : Int) {T : Nat} {z : Int} (hz : (T : Int) = z) {B : List UInt8} (he : spanGet d at_ room = some (T, B)) :
    Calls Try.prog 14 #[p, .int .i64 at_, .int .i64 room] W fun e w' => ∃ a c, e = .returned (.tuple #[.int .u32 z, .slice a B.length c, .bool true]) ∧ St w0 w' p d ((.slice a B.length c, B) :: rows) := by
  have hh := h
  obtain ⟨D, hd, hbw, hD, hrr⟩ := h
  subst hz
  have := get_at hd at_ room
  rw [he] at this
  refine this.mono fun e w' ⟨v, h1, h2, h3⟩ => ?_
  have ho : NetMem.Own w' W.heap.size v B := h2
  obtain ⟨a, c, hv⟩ : ∃ a c, v = .slice a B.length c := by
    rcases id ho with ⟨rfl, h0⟩ | ⟨g', cap', rfl, -⟩
    · exact ⟨none, 0, by rw [h0]; rfl⟩
    · exact ⟨_, _, rfl⟩
  subst hv
  exact ⟨a, c, h1, hh.more h3 ho⟩
theorem get_none_st {w0 W : World} {p : Value} {d : Dk} {rows : List (Value × List UInt8)} (h : St w0 W p d rows) (at_ room : Int) (he : spanGet d at_ room = none) :
    Calls Try.prog 14 #[p, .int .i64 at_, .int .i64 room] W fun e w' => ∃ v, e = .returned (.tuple #[.int .u32 0, v, .bool false]) ∧ St w0 w' p d rows := by
  have hh := h
  obtain ⟨D, hd, hbw, hD, hrr⟩ := h
  have := get_at hd at_ room
  rw [he] at this
  exact this.mono fun e w' ⟨v, h1, h2, h3⟩ => ⟨v, h1, hh.below h3⟩

/-! ### Bytes as a text -/
def numsB (l : List UInt8) : List Int := l.map fun b => (b.toNat : Int)
theorem numsB_length (l : List UInt8) : (numsB l).length = l.length := by simp [numsB]
theorem numsL_getD (l : List UInt8) (i : Nat) (h : i < l.length) : (numsB l).getD i 0 = (l[i].toNat : Int) := by
  simp [numsB, List.getD, h]
theorem str_nums (l : List UInt8) : strOfNums (numsB l) = ⟨l.toArray⟩ := by
  unfold strOfNums numsB
  congr 1
  rw [List.map_map]
  congr 1
  conv => rhs; rw [← List.map_id l]
  apply List.map_congr_left
  intro x _
  simp
/-- A row of bytes as a text, be it empty or nil. -/
theorem conv_any {w : World} {v : Value} {l : List UInt8} (h : Row w v l) : (convert 25 9 v).run Try.prog w = .ok (.string ⟨l.toArray⟩) w := by
  obtain ⟨p, cap, rfl, h1, h2, h3⟩ := h
  rcases Nat.eq_zero_or_pos cap with h0 | h0
  · obtain rfl : l = [] := List.eq_nil_of_length_eq_zero (by omega)
    cases p with
    | none => exact run_convert_bytes_nil (P := Try.prog) w 25 5 Try.underlying25 Try.underlying5 _ _ 9 Try.underlying9
    | some a =>
      have hl : (loadCells a 0).run Try.prog w = .ok (([] : List Int).map (Value.int .u8)).toArray w := run_loadCells_list (P := Try.prog) w a [] (fun j v hj => by simp at hj)
      show (convert 25 9 (.slice (some a) 0 cap)).run Try.prog w = _
      rw [run_convert_bytes_string w 25 9 5 _ 0 cap Try.underlying25 Try.underlying5 Try.underlying9, run_bytesToString w _ 0 cap [] hl]
      rfl
  · obtain ⟨b, o, rfl, hc⟩ := h3 h0
    have := run_convert_bytes_arg (P := Try.prog) w 25 5 Try.underlying25 Try.underlying5 b o l.length cap (numsB l) (numsB_length l) (fun i hi => by rw [numsL_getD l i hi]; exact hc i hi) 9 Try.underlying9
    rwa [str_nums] at this

/-! ### The example -/
def abcB : List UInt8 := [97, 98, 99]
theorem known_put : spanPut (Dk.new 4) 1 3 7 abcB = (0, done (Dk.new 4) 1 7 abcB) := put_well (Dk.new 4) 1 3 7 abcB rfl rfl (by decide) (by decide)
theorem known_get : spanGet (done (Dk.new 4) 1 7 abcB) 1 3 = some (7, abcB) :=
  get_here _ 1 3 7 abcB (done_here (Dk.new 4) 1 7 abcB (by decide)) (by decide) (by decide) (by decide) (by rw [done_len]; decide) (by decide)

theorem abc_own (w : World) (e : TypeId) : NetMem.Own (w.alloc (.cells #[.int .u8 97, .int .u8 98, .int .u8 99] e (3, 4))) w.heap.size (.slice (some ⟨w.heap.size, 0, none⟩) 3 3) abcB := by
  refine .inr ⟨w.heap.size, 3, rfl, Nat.le_refl _, by simp, by decide, by simp [maxLen], fun j hj => ⟨?_, ?_⟩, fun j hj => ?_⟩
  · rw [World.cell?_alloc_mark w _ e (3, 4)]
    have : j < 3 := hj
    simp [this]
  · rw [World.frozen?_alloc_mark w _ e 3 4 j]
    simp; omega
  · rw [World.cell?_alloc_mark w _ e (3, 4)]
    simpa [abcB, Lib.byteCells] using bc_at abcB j hj
theorem abc_text : (⟨abcB.toArray⟩ : ByteArray) = ⟨#[97, 98, 99]⟩ := rfl

set_option maxHeartbeats 2000000 in
set_option maxRecDepth 100000 in
theorem known_any (w : World) :
    Calls Try.prog 9 #[] w fun e w' => e = .returned (.bool true) ∧ Below w.heap.size w w' := by
  have kc := fun (w : World) (C : Array Value) (n c : Nat) => Lib.run_convert_bytes_const (P := Try.prog) w 25 5 C n c Try.underlying25 Try.underlying5
  go_enter Try.func9, Try.ntmps9
  go_wp2_with fail
  refine (new_st 4 (by omega) 4 rfl w).mono ?_
  rintro e w1 ⟨g, rfl, h1⟩
  have hb1 : Below w1.heap.size w1 (w1.alloc (.cells #[.int .u8 97, .int .u8 98, .int .u8 99] 5 (3, 4))) := (Below.refl _ _).alloc (Nat.le_refl _) _
  have H1 := Lib.hid (h1.more hb1 (abc_own w1 5))
  clear h1 hb1
  go_wp2_with fail
  refine (put_own_st H1.out 1 3 (by decide) (by decide) 7 (by decide) 7 rfl (List.mem_cons_self) known_put (by decide) (by decide) (by decide)).mono ?_
  rintro e w2 ⟨rfl, h2⟩
  have H2 := Lib.hid h2
  clear h2
  go_wp2_with fail
  refine (get_some_st H2.out 1 3 (T := 7) (z := 7) rfl known_get).mono ?_
  rintro e w3 ⟨a, c, rfl, h3⟩
  have hcv := conv_any (h3.row List.mem_cons_self).row
  rw [abc_text] at hcv
  have H3 := Lib.hid h3
  have HN := Lib.hid (need_any 17 w3 (by decide))
  clear h3
  go_wp2_with fail
  refine HN.out.mono ?_
  rintro e w4 ⟨rfl, rfl⟩
  go_wp2_with fail
  go_ret
  exact ⟨rfl, H3.out.old⟩
end Go.Proofs.Ytjmhonocokjfeaa
