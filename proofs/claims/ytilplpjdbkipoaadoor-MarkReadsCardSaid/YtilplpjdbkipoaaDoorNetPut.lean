/-
  Proved: net.Num and net.Text answer a number's, a text's bytes in new memory, and change nothing that was there. Conditions: the number is an int64; the text is of at most 2^47 bytes less 32; the library's table of powers of ten reads as laid.
-/
import Derived.Test.YtilplpjdbkipoaaDoorShelf
import Derived.Test.YtilplpjdbkipoaaDoorNetMath
import Derived.Test.YtilplpjdbkipoaaDoorNetOwn
import Derived.Lib.Hide
import Derived.Lib.ItoaLen
import Derived.OwnWalk
import Derived.WalkKit
import Derived.BigCall
namespace Go.Proofs.YtilplpjdbkipoaaDoor.NetP
open Go Go.Shelf Go.RowKit NetMath NetMem

theorem info5 : (Tryd.prog.info? 5).map (fun i => (i.zero, i.size, i.bytes)) = some (some (.int .u8 0), 1, 1) := by kernel_rfl

/-- The library's table of powers of ten. -/
def Tab (w : World) : Prop := Lib.TabIs Tryd.prog w "internal/strconv.uint64pow10" .u64 Lib.pow10Tab

set_option maxHeartbeats 1000000 in
set_option maxRecDepth 100000 in
theorem num_any (n : Int) (hn : I64 n) (w : World) (ht : Tab w) :
    Calls Tryd.prog 23 #[.int .i64 n] w fun e w' => ∃ v, e = .returned v ∧ Own w' w.heap.size v (numB n) ∧ Below w.heap.size w w' := by
  obtain ⟨i0, hi, hz0, hz1, hz2⟩ := info_parts info5
  have hT := Lib.tabBelow_of_tabIs ht
  have la := itoa_length20 n hn
  obtain ⟨h0, h1⟩ := hn
  go_enter Tryd.func23, Tryd.ntmps23
  go_wp2_with (go_at_call 44; refine (Tryd.strconv_AppendInt_10 w.heap.size 0 n h0 h1 (.slice none 0 0) [] w (World.ownsRow_nil _ _ _ _) (Nat.le_refl _) (by omega) hT).mono ?_; rintro e w1 ⟨v1, rfl, hown1, hnx1, -⟩; refine Hid.out ?_)
  refine Lib.hid ?_
  rw [Nat.zero_add, List.nil_append] at hown1
  have ho1 := (Own.of_ownsRow hown1)
  have hsz := hnx1.size
  have ho2 : Own (w1.alloc (.cells #[.int .u8 59] 5)) w.heap.size v1 (Lib.itoa n) := ho1.below ((Below.refl _ _).alloc (Nat.le_refl _) _)
  have hsrc : Src Tryd.prog 1 26 (.slice (some ⟨w1.heap.size, 0, none⟩) 1 1) [(59 : UInt8)].length (Lib.byteCells [59]) (w1.alloc (.cells #[.int .u8 59] 5)) :=
    Src.ofSlice _ Tryd.underlying26 ⟨w1.heap.size, 0, none⟩ 1 1 _ rfl (by intro j u hj; match j, hj with | 0, hj => simp [Lib.byteCells] at hj; subst hj; simp [Addr.add]) (by intro u hu; simp [Lib.byteCells] at hu; subst hu; rfl)
  have hlt := ho1.lt
  clear hown1 ht
  go_wp2_with (at_builtin; refine wpList_append_bytes _ rfl _ _ 26 26 rfl 5 i0 Tryd.underlying26 hi hz0 hz1 hz2 w.heap.size _ _ rfl ho2 _ [59] rfl hsrc ?lim ?hB ?_)
  case lim => simp; omega
  case hB => simp; omega
  intro v2 w2 ho3 hg3 _
  go_wp2
  go_ret
  refine ⟨v2, rfl, ho3, (hnx1.alloc (by omega) _).grown hg3 (by simp; omega) (fun k hk => (hlt k hk).1)⟩

theorem numB_len (n : Int) (hn : I64 n) : (numB n).length ≤ 21 := by
  have := itoa_length20 n hn
  simp [numB]; omega

theorem size_len (s : ByteArray) : s.size = s.data.toList.length := by rw [Array.length_toList]; rfl

set_option maxHeartbeats 1000000 in
set_option maxRecDepth 100000 in
theorem text_any (s : ByteArray) (hs : s.size ≤ 140737488355296) (w : World) (ht : Tab w) :
    Calls Tryd.prog 24 #[.string s] w fun e w' => ∃ v, e = .returned v ∧ Own w' w.heap.size v (textB s.data.toList) ∧ Below w.heap.size w w' := by
  obtain ⟨i0, hi, hz0, hz1, hz2⟩ := info_parts info5
  have hl := size_len s
  have hn : I64 (s.size : Int) := ⟨by omega, by omega⟩
  have hnl := numB_len _ hn
  have hnum := num_any (s.size : Int) hn w ht
  have HL := Lib.hid hl
  clear hl ht
  go_enter Tryd.func24, Tryd.ntmps24
  go_wp2_with (go_at_call 23; refine hnum.mono ?_; rintro e w1 ⟨v1, rfl, ho1, hb1⟩; refine Hid.out ?_)
  refine Lib.hid ?_
  clear hnum
  have hsrc := src_string (P := Tryd.prog) w1 Tryd.underlying9 s
  have hlt := ho1.lt
  have hsz := hb1.size
  go_wp2_with (at_builtin; refine wpList_append_bytes _ rfl _ _ 26 9 rfl 5 i0 Tryd.underlying26 hi hz0 hz1 hz2 w.heap.size _ _ rfl ho1 _ s.data.toList rfl hsrc ?lim ?hB ?_)
  case lim => have := HL.out; omega
  case hB => exact hsz
  intro v2 w2 ho3 hg3 _
  go_wp2
  go_ret
  refine ⟨v2, rfl, ?_, hb1.grown hg3 hsz (fun k hk => (hlt k hk).1)⟩
  unfold textB
  rw [← HL.out]
  exact ho3

/-- A Reader's block: its one field is a slice that can be read. T: the struct's type. -/
def Rd (T : TypeId) (w : World) (r : Nat) (l : List UInt8) : Prop := ∃ v, w.heap[r]? = some (.cells #[v] T (0, 0)) ∧ Row w v l

theorem Row.nums {w : World} {p : Option Addr} {n cap : Nat} {l : List UInt8} (h : Row w (.slice p n cap) l) :
    n = l.length ∧ l.length ≤ cap ∧ cap ≤ maxLen ∧ (0 < cap → ∃ b o, p = some ⟨b, o, none⟩ ∧ ∀ i (h : i < l.length), w.cell? ⟨b, o + i, none⟩ = some (.int .u8 (l[i].toNat : Int))) := by
  obtain ⟨p', cap', hv, h1, h2, h3⟩ := h
  simp only [Value.slice.injEq] at hv
  obtain ⟨rfl, rfl, rfl⟩ := hv
  exact ⟨rfl, h1, h2, h3⟩

theorem numsL_getD (l : List UInt8) (i : Nat) (h : i < l.length) : (Lib.numsL l).getD i 0 = (l[i].toNat : Int) := by
  simp [Lib.numsL, List.getD, h]

set_option maxHeartbeats 1000000 in
set_option maxRecDepth 100000 in
/-- bytes.Clone, of whatever can be read. -/
theorem clone_any (v : Value) (l : List UInt8) (hl : l.length ≤ 140737488355328) (w : World) (h : Row w v l) :
    Calls Tryd.prog 47 #[v] w fun e w' => ∃ v', e = .returned v' ∧ Row w' v' l ∧ Below w.heap.size w w' := by
  obtain ⟨p, cap, rfl, hlc, hcm, hc⟩ := h
  cases p with
  | none =>
    refine (Tryd.bytes_Clone_nil l.length cap w).mono fun e w' ⟨he, hw⟩ => ?_
    subst hw
    have h0 : l = [] := by
      rcases Nat.eq_zero_or_pos cap with h | h
      · exact List.eq_nil_of_length_eq_zero (by omega)
      · obtain ⟨b, o, hp, _⟩ := hc h; cases hp
    subst h0
    exact ⟨_, he, (Own.nil w' 0).row, Below.refl _ _⟩
  | some a =>
    refine (Tryd.bytes_Clone_at a l.length cap (Lib.numsL l) w (Lib.numsL_length l) hl (fun i hi => ?_)).mono fun e w' ⟨v', he, hown, _, hb⟩ => ?_
    · obtain ⟨b, o, hp, hcc⟩ := hc (by omega)
      simp only [Option.some.injEq] at hp
      subst hp
      rw [Lib.add_plain, numsL_getD l i hi]
      exact hcc i hi
    · refine ⟨v', he, (Own.of_ownsRow (B := w.heap.size) (e := 5) (n := l.length) ?_).row, hb⟩
      have e1 : (Lib.numsL l).map (Value.int .u8) = Lib.byteCells l := by simp [Lib.numsL, Lib.byteCells]
      rw [← e1]
      exact hown

set_option maxHeartbeats 1000000 in
set_option maxRecDepth 100000 in
theorem new_any (v : Value) (l : List UInt8) (hl : l.length ≤ 140737488355328) (w : World) (h : Row w v l) :
    Calls Tryd.prog 26 #[v] w fun e w' => ∃ r, e = .returned (.pointer (some ⟨r, 0, none⟩)) ∧ w.heap.size ≤ r ∧ r < w'.heap.size ∧ Rd 86 w' r l ∧ Below w.heap.size w w' := by
  have hcl := clone_any v l hl w h
  clear h
  go_enter Tryd.func26, Tryd.ntmps26
  go_wp2_with (go_at_call 47; refine hcl.mono ?_; rintro e w1 ⟨v1, rfl, hr1, hb1⟩; refine Hid.out ?_)
  refine Lib.hid ?_
  clear hcl
  have hsz := hb1.size
  obtain ⟨p1, cap1, hv1, -⟩ := id hr1
  subst hv1
  go_wp2
  go_ret
  refine ⟨w1.heap.size, rfl, hsz, by simp, ⟨_, heap_alloc_new w1 _, hr1.below ((Below.refl _ _).alloc (Nat.le_refl _) _)⟩, hb1.alloc hsz _⟩

end Go.Proofs.YtilplpjdbkipoaaDoor.NetP
