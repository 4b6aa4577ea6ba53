/-
  Proved: span's Put, Get, Clear by their model, beside rows of bytes; bytes as a text. Conditions: as each says.
-/
import Derived.Test.YtilplpjdbkipoaaGreatDoorSpanGet
import Derived.Laws.BytesArg
namespace Go.Proofs.YtilplpjdbkipoaaGreatDoor
open Go Go.RowKit DiskMath NetMem SpanMath SumMath

theorem get_at {w : World} {D : Nat → Prop} {p : Value} {d : Dk} (h : DiskAt w D p d) (at_ room : Int) :
    Calls Tryz.prog 54 #[p, .int .i64 at_, .int .i64 room] w (GetSaid (spanGet d at_ room) w) := by
  by_cases hi : d.has at_ = true
  · have hb : 0 ≤ at_ ∧ at_ < (d.s.length : Int) := by simpa [Dk.has] using hi
    obtain ⟨a, rfl⟩ := Int.eq_ofNat_of_zero_le hb.1
    exact get_in h a room (by omega)
  · have hi' : d.has at_ = false := by simpa using hi
    exact (get_out h at_ room hi').mono fun e w' ⟨he, hw⟩ => by
      subst hw; subst he
      exact getSaid_none (by unfold spanGet; rw [if_pos hi']) (Below.refl _ _)

/-! ### Beside rows -/
/-- A row that was there when the call began. -/
theorem rowO_old {w0 W : World} {D : Nat → Prop} {v : Value} {l : List UInt8} (hb : Below w0.heap.size w0 W) (hD : ∀ k, D k → w0.heap.size ≤ k) (hr : Row w0 v l) : RowO W D v l :=
  ⟨hr.below hb, fun b o n c hv h0 hd => by
    subst hv
    have := row_cell hr h0
    have := hD b hd
    omega⟩
/-- A row that the call owns. -/
theorem rowO_own {w0 W : World} {D : Nat → Prop} {v : Value} {l : List UInt8} (ho : NetMem.Own W w0.heap.size v l) (hn : ∀ k, v.ownBlock = some k → ¬ D k) : RowO W D v l :=
  ⟨ho.row, fun b o n c hv _ hd => hn b (by rw [hv]; rfl) hd⟩

theorem put_st {w0 W : World} {p : Value} {d d' : Dk} {rows : List (Value × List UInt8)} (h : St w0 W p d rows) (at_ room : Int) (ha : -9223372036854775808 ≤ at_) (hb : at_ ≤ 4611686018427387904) (tag : Nat) (ht : tag < 4294967296) (z : Int) (hz : (tag : Int) = z)
    {q : Option Addr} {c : Nat} {l : List UInt8} (hr : Row w0 (.slice q l.length c) l) {e0 : Int} (he : spanPut d at_ room tag l = (e0, d')) (hl : l.length ≤ 2147483648) (hn : d.n + l.length + 4 < 4611686018427387904) (hp : d.p.length + l.length + 4 < 4294967296) :
    Calls Tryz.prog 25 #[p, .int .i64 at_, .int .i64 room, .int .u32 z, .slice q l.length c] W fun e w' => e = .returned (.int .i64 e0) ∧ St w0 w' p d' rows := by
  obtain ⟨D, hd, hbw, hD, hrr⟩ := h
  subst hz
  have := put_at hd at_ room ha hb tag ht q c l (rowO_old hbw hD hr) hl hn hp
  rw [he] at this
  exact this.mono fun e w' ⟨h1, h2⟩ => ⟨h1, St.of_step hbw hD hrr h2⟩
theorem put_own_st {w0 W : World} {p : Value} {d d' : Dk} {rows : List (Value × List UInt8)} (h : St w0 W p d rows) (at_ room : Int) (ha : -9223372036854775808 ≤ at_) (hb : at_ ≤ 4611686018427387904) (tag : Nat) (ht : tag < 4294967296) (z : Int) (hz : (tag : Int) = z)
    {q : Option Addr} {n c : Nat} {l : List UInt8} (hr : (.slice q n c, l) ∈ rows) {e0 : Int} (he : spanPut d at_ room tag l = (e0, d')) (hl : l.length ≤ 2147483648) (hn : d.n + l.length + 4 < 4611686018427387904) (hp : d.p.length + l.length + 4 < 4294967296) :
    Calls Tryz.prog 25 #[p, .int .i64 at_, .int .i64 room, .int .u32 z, .slice q n c] W fun e w' => e = .returned (.int .i64 e0) ∧ St w0 w' p d' rows := by
  obtain ⟨D, hd, hbw, hD, hrr⟩ := h
  subst hz
  have hro : NetMem.Own W w0.heap.size (.slice q n c) l ∧ ∀ k, (Value.slice q n c).ownBlock = some k → ¬ D k := hrr _ hr
  obtain ⟨rfl, -⟩ := Row.nums hro.1.row
  have := put_at hd at_ room ha hb tag ht q c l (rowO_own hro.1 hro.2) hl hn hp
  rw [he] at this
  exact this.mono fun e w' ⟨h1, h2⟩ => ⟨h1, St.of_step hbw hD hrr h2⟩
theorem clear_st {w0 W : World} {p : Value} {d d' : Dk} {rows : List (Value × List UInt8)} (h : St w0 W p d rows) (at_ : Int) {e0 : Int} (he : spanClear d at_ = (e0, d')) (hn : d.n + 1 < 4611686018427387904) (hp : d.p.length < 4294967296) :
    Calls Tryz.prog 43 #[p, .int .i64 at_] W fun e w' => e = .returned (.int .i64 e0) ∧ St w0 w' p d' rows := by
  obtain ⟨D, hd, hbw, hD, hrr⟩ := h
  have := clear_at hd at_ hn hp
  rw [he] at this
  exact this.mono fun e w' ⟨h1, h2⟩ => ⟨h1, St.of_step hbw hD hrr h2⟩
theorem get_some_st {w0 W : World} {p : Value} {d : Dk} {rows : List (Value × List UInt8)} (h : St w0 W p d rows) (at_ room : Int) {T : Nat} {z : Int} (hz : (T : Int) = z) {B : List UInt8} (he : spanGet d at_ room = some (T, B)) :
    Calls Tryz.prog 54 #[p, .int .i64 at_, .int .i64 room] W fun e w' => ∃ a c, e = .returned (.tuple #[.int .u32 z, .slice a B.length c, .bool true]) ∧ St w0 w' p d ((.slice a B.length c, B) :: rows) := by
  have hh := h
  obtain ⟨D, hd, hbw, hD, hrr⟩ := h
  subst hz
  have := get_at hd at_ room
  rw [he] at this
  refine this.mono fun e w' ⟨v, h1, h2, h3⟩ => ?_
  have ho : NetMem.Own w' W.heap.size v B := h2
  obtain ⟨a, c, hv⟩ : ∃ a c, v = .slice a B.length c := by
    rcases id ho with ⟨rfl, h0⟩ | ⟨g', cap', rfl, -⟩
    · exact ⟨none, 0, by rw [h0]; rfl⟩
    · exact ⟨_, _, rfl⟩
  subst hv
  exact ⟨a, c, h1, hh.more h3 ho⟩
theorem get_none_st {w0 W : World} {p : Value} {d : Dk} {rows : List (Value × List UInt8)} (h : St w0 W p d rows) (at_ room : Int) (he : spanGet d at_ room = none) :
    Calls Tryz.prog 54 #[p, .int .i64 at_, .int .i64 room] W fun e w' => ∃ v, e = .returned (.tuple #[.int .u32 0, v, .bool false]) ∧ St w0 w' p d rows := by
  have hh := h
  obtain ⟨D, hd, hbw, hD, hrr⟩ := h
  have := get_at hd at_ room
  rw [he] at this
  exact this.mono fun e w' ⟨v, h1, h2, h3⟩ => ⟨v, h1, hh.below h3⟩

/-! ### Bytes as a text -/
def numsB (l : List UInt8) : List Int := l.map fun b => (b.toNat : Int)
theorem numsB_length (l : List UInt8) : (numsB l).length = l.length := by simp [numsB]
theorem numsL_getD (l : List UInt8) (i : Nat) (h : i < l.length) : (numsB l).getD i 0 = (l[i].toNat : Int) := by
  simp [numsB, List.getD, h]
theorem str_nums (l : List UInt8) : strOfNums (numsB l) = ⟨l.toArray⟩ := by
  unfold strOfNums numsB
  congr 1
  rw [List.map_map]
  congr 1
  conv => rhs; rw [← List.map_id l]
  apply List.map_congr_left
  intro x _
  simp
/-- A row of bytes as a text, be it empty or nil. -/
theorem conv_any {w : World} {v : Value} {l : List UInt8} (h : Row w v l) : (convert 56 9 v).run Tryz.prog w = .ok (.string ⟨l.toArray⟩) w := by
  obtain ⟨p, cap, rfl, h1, h2, h3⟩ := h
  rcases Nat.eq_zero_or_pos cap with h0 | h0
  · obtain rfl : l = [] := List.eq_nil_of_length_eq_zero (by omega)
    cases p with
    | none => exact run_convert_bytes_nil (P := Tryz.prog) w 56 5 Tryz.underlying56 Tryz.underlying5 _ _ 9 Tryz.underlying9
    | some a =>
      have hl : (loadCells a 0).run Tryz.prog w = .ok (([] : List Int).map (Value.int .u8)).toArray w := run_loadCells_list (P := Tryz.prog) w a [] (fun j v hj => by simp at hj)
      show (convert 56 9 (.slice (some a) 0 cap)).run Tryz.prog w = _
      rw [run_convert_bytes_string w 56 9 5 _ 0 cap Tryz.underlying56 Tryz.underlying5 Tryz.underlying9, run_bytesToString w _ 0 cap [] hl]
      rfl
  · obtain ⟨b, o, rfl, hc⟩ := h3 h0
    have := run_convert_bytes_arg (P := Tryz.prog) w 56 5 Tryz.underlying56 Tryz.underlying5 b o l.length cap (numsB l) (numsB_length l) (fun i hi => by rw [numsL_getD l i hi]; exact hc i hi) 9 Tryz.underlying9
    rwa [str_nums] at this
end Go.Proofs.YtilplpjdbkipoaaGreatDoor
