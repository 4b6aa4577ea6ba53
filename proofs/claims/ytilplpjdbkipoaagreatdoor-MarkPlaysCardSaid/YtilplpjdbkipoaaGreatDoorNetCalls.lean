/-
  Proved: texts joined: Proved: what is owned as the library says it is owned as bytes. Conditions: none.
  Proved: net.Num and net.Text answer a number's, a text's bytes in new memory, and change nothing that was there. Conditions: the number is an int64; the text is of at most 2^47 bytes less 32; the library's table of powers of ten reads as laid.
  Proved: net.firstNum, Reader.Num, Reader.Text answer and leave what the plain functions numV, textV and their kin say. Conditions: at most 2^47 bytes are left; the library's table and its two sentinel errors read as laid.
  Proved: Reader.Num and Reader.Text, of a Reader and of nil, answer and leave what the plain functions numV, textV and their kin say. Conditions: at most 2^47 bytes are left; the library's table and its two sentinel errors read as laid.
  Proved: Reader.Text answers and leaves what the plain functions textV, textOk, textRest say. Conditions: at most 2^47 bytes are left; the library's table and its two sentinel errors read as laid.
-/
import Derived.Test.YtilplpjdbkipoaaGreatDoorBytes
import Derived.Lib.SlFresh
import Derived.Test.YtilplpjdbkipoaaGreatDoorShelf
import Derived.Test.YtilplpjdbkipoaaGreatDoorNetMath
import Derived.Lib.Hide
import Derived.Lib.ItoaLen
import Derived.OwnWalk
import Derived.WalkKit
import Derived.BigCall
import Derived.Shelf.Bytes.SlEqualAll
import Derived.Deep.RegionWith
import Derived.Deep.Cut
import Derived.Deep.DeepCutAuto
import Derived.Deep.QuietTactic
import Derived.BigQuiet
import Derived.WalkSpells
import Derived.Outline
import Derived.IntWalk
namespace Go.Proofs.YtilplpjdbkipoaaGreatDoor.NetMem
open Go Go.RowKit

/-- What is owned as the library says it. -/
theorem Own.of_ownsRow {w : World} {B : Nat} {e : TypeId} {v : Value} {l : List UInt8} {n : Nat} (h : w.ownsRow B e 1 v n (Lib.byteCells l)) : Own w B v l := by
  have hl : l.length = n := by have := h.1; simp [Lib.byteCells] at this; exact this
  subst hl
  rcases h.2 with ⟨rfl, h0⟩ | ⟨g, cap, cur, rfl, hB, hg, hnc, hcm, hcs, htake⟩
  · exact .inl ⟨rfl, List.eq_nil_of_length_eq_zero h0⟩
  · refine .inr ⟨g, cap, rfl, hB, (Array.getElem?_eq_some_iff.1 hg).1, hnc, hcm, fun j hj => ⟨?_, ?_⟩, fun j hj => ?_⟩
    · rw [cell_of_row w g j cur e (0, 0) hg]
      have : j < cur.size := by omega
      simp [this]
    · simp [World.frozen?, hg]
    · have := h.cells (g := g) rfl j _ (bc_at l j hj)
      rw [Lib.add_plain, Nat.zero_add] at this
      exact this

end Go.Proofs.YtilplpjdbkipoaaGreatDoor.NetMem

namespace Go.Proofs.YtilplpjdbkipoaaGreatDoor.NetP
open Go Go.Shelf Go.RowKit NetMath NetMem

theorem info5 : (Tryz.prog.info? 5).map (fun i => (i.zero, i.size, i.bytes)) = some (some (.int .u8 0), 1, 1) := by kernel_rfl

/-- The library's table of powers of ten. -/
def Tab (w : World) : Prop := Lib.TabIs Tryz.prog w "internal/strconv.uint64pow10" .u64 Lib.pow10Tab

set_option maxHeartbeats 1000000 in
set_option maxRecDepth 100000 in
theorem num_any (n : Int) (hn : I64 n) (w : World) (ht : Tab w) :
    Calls Tryz.prog 41 #[.int .i64 n] w fun e w' => ∃ v, e = .returned v ∧ Own w' w.heap.size v (numB n) ∧ Below w.heap.size w w' := by
  obtain ⟨i0, hi, hz0, hz1, hz2⟩ := info_parts info5
  have hT := Lib.tabBelow_of_tabIs ht
  have la := itoa_length20 n hn
  obtain ⟨h0, h1⟩ := hn
  go_enter Tryz.func41, Tryz.ntmps41
  go_wp2_with (go_at_call 64; refine (Tryz.strconv_AppendInt_10 w.heap.size 0 n h0 h1 (.slice none 0 0) [] w (World.ownsRow_nil _ _ _ _) (Nat.le_refl _) (by omega) hT).mono ?_; rintro e w1 ⟨v1, rfl, hown1, hnx1, -⟩; refine Hid.out ?_)
  refine Lib.hid ?_
  rw [Nat.zero_add, List.nil_append] at hown1
  have ho1 := (Own.of_ownsRow hown1)
  have hsz := hnx1.size
  have ho2 : Own (w1.alloc (.cells #[.int .u8 59] 5)) w.heap.size v1 (Lib.itoa n) := ho1.below ((Below.refl _ _).alloc (Nat.le_refl _) _)
  have hsrc : Src Tryz.prog 1 56 (.slice (some ⟨w1.heap.size, 0, none⟩) 1 1) [(59 : UInt8)].length (Lib.byteCells [59]) (w1.alloc (.cells #[.int .u8 59] 5)) :=
    Src.ofSlice _ Tryz.underlying56 ⟨w1.heap.size, 0, none⟩ 1 1 _ rfl (by intro j u hj; match j, hj with | 0, hj => simp [Lib.byteCells] at hj; subst hj; simp [Addr.add]) (by intro u hu; simp [Lib.byteCells] at hu; subst hu; rfl)
  have hlt := ho1.lt
  clear hown1 ht
  go_wp2_with (at_builtin; refine wpList_append_bytes _ rfl _ _ 56 56 rfl 5 i0 Tryz.underlying56 hi hz0 hz1 hz2 w.heap.size _ _ rfl ho2 _ [59] rfl hsrc ?lim ?hB ?_)
  case lim => simp; omega
  case hB => simp; omega
  intro v2 w2 ho3 hg3 _
  go_wp2
  go_ret
  refine ⟨v2, rfl, ho3, (hnx1.alloc (by omega) _).grown hg3 (by simp; omega) (fun k hk => (hlt k hk).1)⟩

theorem numB_len (n : Int) (hn : I64 n) : (numB n).length ≤ 21 := by
  have := itoa_length20 n hn
  simp [numB]; omega

theorem size_len (s : ByteArray) : s.size = s.data.toList.length := by rw [Array.length_toList]; rfl

set_option maxHeartbeats 1000000 in
set_option maxRecDepth 100000 in
theorem text_any (s : ByteArray) (hs : s.size ≤ 140737488355296) (w : World) (ht : Tab w) :
    Calls Tryz.prog 42 #[.string s] w fun e w' => ∃ v, e = .returned v ∧ Own w' w.heap.size v (textB s.data.toList) ∧ Below w.heap.size w w' := by
  obtain ⟨i0, hi, hz0, hz1, hz2⟩ := info_parts info5
  have hl := size_len s
  have hn : I64 (s.size : Int) := ⟨by omega, by omega⟩
  have hnl := numB_len _ hn
  have hnum := num_any (s.size : Int) hn w ht
  have HL := Lib.hid hl
  clear hl ht
  go_enter Tryz.func42, Tryz.ntmps42
  go_wp2_with (go_at_call 41; refine hnum.mono ?_; rintro e w1 ⟨v1, rfl, ho1, hb1⟩; refine Hid.out ?_)
  refine Lib.hid ?_
  clear hnum
  have hsrc := src_string (P := Tryz.prog) w1 Tryz.underlying9 s
  have hlt := ho1.lt
  have hsz := hb1.size
  go_wp2_with (at_builtin; refine wpList_append_bytes _ rfl _ _ 56 9 rfl 5 i0 Tryz.underlying56 hi hz0 hz1 hz2 w.heap.size _ _ rfl ho1 _ s.data.toList rfl hsrc ?lim ?hB ?_)
  case lim => have := HL.out; omega
  case hB => exact hsz
  intro v2 w2 ho3 hg3 _
  go_wp2
  go_ret
  refine ⟨v2, rfl, ?_, hb1.grown hg3 hsz (fun k hk => (hlt k hk).1)⟩
  unfold textB
  rw [← HL.out]
  exact ho3

/-- A Reader's block: its one field is a slice that can be read. T: the struct's type. -/
def Rd (T : TypeId) (w : World) (r : Nat) (l : List UInt8) : Prop := ∃ v, w.heap[r]? = some (.cells #[v] T (0, 0)) ∧ Row w v l

theorem Row.nums {w : World} {p : Option Addr} {n cap : Nat} {l : List UInt8} (h : Row w (.slice p n cap) l) :
    n = l.length ∧ l.length ≤ cap ∧ cap ≤ maxLen ∧ (0 < cap → ∃ b o, p = some ⟨b, o, none⟩ ∧ ∀ i (h : i < l.length), w.cell? ⟨b, o + i, none⟩ = some (.int .u8 (l[i].toNat : Int))) := by
  obtain ⟨p', cap', hv, h1, h2, h3⟩ := h
  simp only [Value.slice.injEq] at hv
  obtain ⟨rfl, rfl, rfl⟩ := hv
  exact ⟨rfl, h1, h2, h3⟩

theorem numsL_getD (l : List UInt8) (i : Nat) (h : i < l.length) : (Lib.numsL l).getD i 0 = (l[i].toNat : Int) := by
  simp [Lib.numsL, List.getD, h]

set_option maxHeartbeats 1000000 in
set_option maxRecDepth 100000 in
/-- bytes.Clone, of whatever can be read. -/
theorem clone_any (v : Value) (l : List UInt8) (hl : l.length ≤ 140737488355328) (w : World) (h : Row w v l) :
    Calls Tryz.prog 79 #[v] w fun e w' => ∃ v', e = .returned v' ∧ Row w' v' l ∧ Below w.heap.size w w' := by
  obtain ⟨p, cap, rfl, hlc, hcm, hc⟩ := h
  cases p with
  | none =>
    refine (Tryz.bytes_Clone_nil l.length cap w).mono fun e w' ⟨he, hw⟩ => ?_
    subst hw
    have h0 : l = [] := by
      rcases Nat.eq_zero_or_pos cap with h | h
      · exact List.eq_nil_of_length_eq_zero (by omega)
      · obtain ⟨b, o, hp, _⟩ := hc h; cases hp
    subst h0
    exact ⟨_, he, (Own.nil w' 0).row, Below.refl _ _⟩
  | some a =>
    refine (Tryz.bytes_Clone_at a l.length cap (Lib.numsL l) w (Lib.numsL_length l) hl (fun i hi => ?_)).mono fun e w' ⟨v', he, hown, _, hb⟩ => ?_
    · obtain ⟨b, o, hp, hcc⟩ := hc (by omega)
      simp only [Option.some.injEq] at hp
      subst hp
      rw [Lib.add_plain, numsL_getD l i hi]
      exact hcc i hi
    · refine ⟨v', he, (Own.of_ownsRow (B := w.heap.size) (e := 5) (n := l.length) ?_).row, hb⟩
      have e1 : (Lib.numsL l).map (Value.int .u8) = Lib.byteCells l := by simp [Lib.numsL, Lib.byteCells]
      rw [← e1]
      exact hown

set_option maxHeartbeats 1000000 in
set_option maxRecDepth 100000 in
theorem new_any (v : Value) (l : List UInt8) (hl : l.length ≤ 140737488355328) (w : World) (h : Row w v l) :
    Calls Tryz.prog 61 #[v] w fun e w' => ∃ r, e = .returned (.pointer (some ⟨r, 0, none⟩)) ∧ w.heap.size ≤ r ∧ r < w'.heap.size ∧ Rd 122 w' r l ∧ Below w.heap.size w w' := by
  have hcl := clone_any v l hl w h
  clear h
  go_enter Tryz.func61, Tryz.ntmps61
  go_wp2_with (go_at_call 79; refine hcl.mono ?_; rintro e w1 ⟨v1, rfl, hr1, hb1⟩; refine Hid.out ?_)
  refine Lib.hid ?_
  clear hcl
  have hsz := hb1.size
  obtain ⟨p1, cap1, hv1, -⟩ := id hr1
  subst hv1
  go_wp2
  go_ret
  refine ⟨w1.heap.size, rfl, hsz, by simp, ⟨_, heap_alloc_new w1 _, hr1.below ((Below.refl _ _).alloc (Nat.le_refl _) _)⟩, hb1.alloc hsz _⟩

end Go.Proofs.YtilplpjdbkipoaaGreatDoor.NetP

namespace Go.Proofs.YtilplpjdbkipoaaGreatDoor.NetP
open Go Go.Shelf Go.RowKit NetMath NetMem

/-- What the library's own variables hold. -/
def Glob (w : World) : Prop := Tab w ∧ (∃ tp p, w.var? Tryz.prog "strconv.ErrSyntax" = some #[.iface tp p]) ∧ (∃ tp p, w.var? Tryz.prog "strconv.ErrRange" = some #[.iface tp p])

theorem gTab : Tryz.prog.globalNamed "internal/strconv.uint64pow10" = some 0 := by kernel_rfl
theorem gSyn : Tryz.prog.globalNamed "strconv.ErrSyntax" = some 2 := by kernel_rfl
theorem gRng : Tryz.prog.globalNamed "strconv.ErrRange" = some 3 := by kernel_rfl

/-- They hold it still where the three first blocks stand. -/
theorem var_keep {w w' : World} {n : String} {g : Nat} (hg : Tryz.prog.globalNamed n = some g) (hk : w'.heap[g]? = w.heap[g]?) {cs : Array Value} (h : w.var? Tryz.prog n = some cs) : w'.var? Tryz.prog n = some cs := by
  unfold World.var? at h ⊢
  simp only [hg, Option.bind_some] at h ⊢
  rw [hk]; exact h

theorem var_lt {w : World} {n : String} {g : Nat} (hg : Tryz.prog.globalNamed n = some g) {cs : Array Value} (h : w.var? Tryz.prog n = some cs) : g < w.heap.size := by
  unfold World.var? at h
  simp only [hg, Option.bind_some] at h
  rcases Nat.lt_or_ge g w.heap.size with h' | h'
  · exact h'
  · simp [Array.getElem?_eq_none h'] at h

theorem Glob.keep {w w' : World} (h : Glob w) (hk : ∀ k, k < 4 → w'.heap[k]? = w.heap[k]?) : Glob w' := by
  obtain ⟨h1, ⟨t2, p2, h2⟩, ⟨t3, p3, h3⟩⟩ := h
  exact ⟨var_keep gTab (hk _ (by decide)) h1, ⟨t2, p2, var_keep gSyn (hk _ (by decide)) h2⟩, ⟨t3, p3, var_keep gRng (hk _ (by decide)) h3⟩⟩

theorem Glob.below {w w' : World} (h : Glob w) (hb : Below w.heap.size w w') : Glob w' := by
  obtain ⟨h1, ⟨t2, p2, h2⟩, ⟨t3, p3, h3⟩⟩ := h
  exact ⟨var_keep gTab (hb.block _ (var_lt gTab h1)) h1, ⟨t2, p2, var_keep gSyn (hb.block _ (var_lt gSyn h2)) h2⟩, ⟨t3, p3, var_keep gRng (hb.block _ (var_lt gRng h3)) h3⟩⟩

theorem Glob.size {w : World} (h : Glob w) : 4 ≤ w.heap.size := by
  obtain ⟨_, _, ⟨t3, p3, h3⟩⟩ := h
  have := var_lt gRng h3
  omega

theorem Row.bytesIn {w : World} {p : Option Addr} {n cap : Nat} {l : List UInt8} (h : Row w (.slice p n cap) l) : Lib.BytesIn w p n (Lib.numsL l) := by
  obtain ⟨rfl, hlc, hcm, hc⟩ := Row.nums h
  intro h0
  obtain ⟨b, o, hp, hcc⟩ := hc (by omega)
  exact ⟨b, o, hp, fun i hi => by rw [numsL_getD l i hi]; exact hcc i hi⟩

theorem Row.take {w : World} {p : Option Addr} {n cap : Nat} {l : List UInt8} (h : Row w (.slice p n cap) l) (k : Nat) (hk : k ≤ l.length) : Row w (.slice p k cap) (l.take k) := by
  obtain ⟨rfl, hlc, hcm, hc⟩ := Row.nums h
  have e : (l.take k).length = k := by rw [List.length_take]; omega
  refine ⟨p, cap, by rw [e], by omega, hcm, fun h0 => ?_⟩
  obtain ⟨b, o, hp, hcc⟩ := hc h0
  exact ⟨b, o, hp, fun i hi => by rw [List.getElem_take]; exact hcc i (by omega)⟩

theorem str_nums (l : List UInt8) : strOfNums (Lib.numsL l) = ⟨l.toArray⟩ := by
  unfold strOfNums Lib.numsL
  congr 1
  rw [List.map_map]
  congr 1
  conv => rhs; rw [← List.map_id l]
  apply List.map_congr_left
  intro x _
  simp

theorem Row.convert {w : World} {p : Option Addr} {n cap : Nat} {l : List UInt8} (h : Row w (.slice p n cap) l) :
    (convert 56 9 (.slice p n cap)).run Tryz.prog w = .ok (.string ⟨l.toArray⟩) w := by
  have hn := (Row.nums h).1
  have := (Row.bytesIn h).convert (P := Tryz.prog) (by rw [Lib.numsL_length, hn]) cap 56 5 9 Tryz.underlying56 Tryz.underlying5 Tryz.underlying9
  rwa [str_nums] at this

/-- bytes.IndexByte, of whatever can be read. -/
theorem index_any (p : Option Addr) (n cap : Nat) (l : List UInt8) (w : World) (h : Row w (.slice p n cap) l) :
    Calls Tryz.prog 89 #[.slice p n cap, .int .u8 59] w fun e w' => e = .returned (.int .i64 (Lib.indexByte l 59)) ∧ w = w' := by
  obtain ⟨rfl, hlc, hcm, hc⟩ := Row.nums h
  cases p with
  | none =>
    rcases Nat.eq_zero_or_pos cap with h0 | h0
    · have hl : l = [] := List.eq_nil_of_length_eq_zero (by omega)
      subst hl
      subst h0
      exact (Tryz.bytes_IndexByte_nil 59 w).mono fun e w' ⟨he, hw⟩ => ⟨he, hw.symm⟩
    · obtain ⟨b, o, hp, _⟩ := hc h0
      cases hp
  | some a =>
    refine (Tryz.bytes_IndexByte_at a l.length cap (Lib.numsL l) 59 w (Lib.numsL_length l) (fun i hi => ?_)).mono fun e w' ⟨he, hw⟩ => ⟨?_, hw.symm⟩
    · obtain ⟨b, o, hp, hcc⟩ := hc (by omega)
      simp only [Option.some.injEq] at hp
      subst hp
      rw [Lib.add_plain, numsL_getD l i hi]
      exact hcc i hi
    · rw [he, Lib.bytesOf_numsL]; rfl

/-- strconv.ParseInt(s, 10, 64), where s spells an int64. -/
theorem parse_ok (l : List UInt8) (hl : l.length ≤ 140737488355328) (n : Int) (h : Lib.parseIntB 64 l = .ok n) (w : World) :
    Calls Tryz.prog 90 #[.string ⟨l.toArray⟩, .int .i64 10, .int .i64 64] w fun e w' => e = .returned (.tuple #[.int .i64 n, .nilIface]) ∧ Below w.heap.size w w' := by
  refine (Tryz.strconv_ParseInt_10_at64_ok ⟨l.toArray⟩ (by show l.toArray.size ≤ _; simp; omega) n (by simpa using h) w).mono fun e w' ⟨he, hw⟩ => ⟨he, ?_⟩
  rcases hw with rfl | ⟨t, rfl⟩
  · exact Below.refl _ _
  · exact ⟨rfl, rfl, rfl, by rw [Lib.bytesWorld_size]; omega, fun k hk => Lib.bytesWorld_at_old w _ t k hk⟩

/-- .. and where it does not: some error that is not nil. -/
def BadEnd (W : World) (e : Ending) (w' : World) : Prop := ∃ (z : Int) (T : TypeId) (N : Nat), e = .returned (.tuple #[.int .i64 z, .iface T (.pointer (some ⟨N, 0, none⟩))]) ∧ Below W.heap.size W w'
theorem parse_bad (l : List UInt8) (hl : l.length ≤ 140737488355328) (h : ∀ n, Lib.parseIntB 64 l ≠ .ok n) (w : World) (hg : Glob w) :
    Calls Tryz.prog 90 #[.string ⟨l.toArray⟩, .int .i64 10, .int .i64 64] w (BadEnd w) := by
  obtain ⟨_, ⟨t2, p2, h2⟩, ⟨t3, p3, h3⟩⟩ := hg
  have hsz : (⟨l.toArray⟩ : ByteArray).size ≤ 281474976710656 := by show l.toArray.size ≤ _; simp; omega
  cases hp : Lib.parseIntB 64 l with
  | ok n => exact absurd hp (h n)
  | range => exact (Tryz.strconv_ParseInt_10_at64_range_var ⟨l.toArray⟩ hsz (by simpa using hp) t3 p3 w h3).mono fun e w' ⟨N, he, _, _, hb⟩ => ⟨_, _, N, he, hb⟩
  | _ =>
    have hc := Any.strconv_ParseInt_10_at64_syntax_var Tryz.laysC174 ⟨l.toArray⟩ hsz (by simpa using hp) t2 p2 w h2
    exact hc.mono fun e w' ⟨N, he, _, _, hb⟩ => ⟨_, _, N, he, hb⟩

/-- bytes.Equal, of whatever can be read. -/
theorem equal_any (p1 p2 : Option Addr) (n c m d : Nat) (l1 l2 : List UInt8) (w : World) (h1 : Row w (.slice p1 n c) l1) (h2 : Row w (.slice p2 m d) l2) :
    Calls Tryz.prog 62 #[.slice p1 n c, .slice p2 m d] w fun e w' => e = .returned (.bool (l1 == l2)) ∧ w = w' := by
  refine (Tryz.bytes_Equal_all p1 p2 n c m d (Lib.numsL l1) (Lib.numsL l2) w (by rw [Lib.numsL_length, (Row.nums h1).1]) (by rw [Lib.numsL_length, (Row.nums h2).1]) (Row.bytesIn h1) (Row.bytesIn h2)).mono fun e w' ⟨he, hw⟩ => ⟨?_, hw.symm⟩
  rw [he, Lib.bytesOf_numsL, Lib.bytesOf_numsL]

/-- How many bytes the first Num has; 0: there is none. -/
def firstK (l : List UInt8) : Nat := match firstN l with | some (_, k) => k | none => 0

theorem num_any2 (n : Int) (hn : I64 n) (w : World) (ht : Tab w) :
    Calls Tryz.prog 41 #[.int .i64 n] w fun e w' => ∃ p c, e = .returned (.slice p (numB n).length c) ∧ Row w' (.slice p (numB n).length c) (numB n) ∧ Below w.heap.size w w' :=
  (num_any n hn w ht).mono fun e w' ⟨v, he, ho, hb⟩ => by
    obtain ⟨p, c, hv, -⟩ := id ho.row
    subst hv
    exact ⟨p, c, he, ho.row, hb⟩

theorem Row.take21 {w : World} {p : Option Addr} {cap : Nat} {l : List UInt8} (h : Row w (.slice p l.length cap) l) : Row w (.slice p (min (l.length : Int) 21).toNat cap) (l.take 21) := by
  have := Row.take h (min (l.length : Int) 21).toNat (by omega)
  have e : l.take (min (l.length : Int) 21).toNat = l.take 21 := by
    rcases Nat.lt_or_ge l.length 21 with h1 | h1
    · rw [show (min (l.length : Int) 21).toNat = l.length by omega, List.take_length, List.take_of_length_le (by omega)]
    · rw [show (min (l.length : Int) 21).toNat = 21 by omega]
  rwa [e] at this

theorem index_le (l : List UInt8) {e : Nat} (he : Lib.indexByte (l.take 21) 59 = e) : e < l.length ∧ e ≤ 20 := by
  have h1 := (Lib.indexByte_some he).1
  have h2 := (List.getElem?_eq_some_iff.1 h1).1
  rw [List.length_take] at h2
  omega

/-- A slice of bytes behind its length: what the walks want of it. -/
theorem Row.le (w : World) {p : Option Addr} {cap : Nat} {l : List UInt8} (h : Row w (.slice p l.length cap) l) : l.length ≤ cap ∧ cap ≤ 9223372036854775807 := by
  have := (Row.nums h).2
  have h2 := this.2.1
  unfold maxLen at h2
  exact ⟨this.1, by omega⟩

set_option maxHeartbeats 1000000 in
set_option maxRecDepth 100000 in
theorem first_none (p : Option Addr) (cap : Nat) (l : List UInt8) (w : World) (h : Row w (.slice p l.length cap) l) (hn : Lib.indexByte (l.take 21) 59 < 0) :
    Calls Tryz.prog 87 #[.slice p l.length cap] w fun e w' => e = .returned (.tuple #[.int .i64 0, .int .i64 0]) ∧ w = w' := by
  obtain ⟨hlc, hcm⟩ := Row.le w h
  have hidx := index_any p _ cap (l.take 21) w (Row.take21 h)
  have hge := Lib.indexByte_ge (l.take 21) 59
  have hE : Lib.indexByte (l.take 21) 59 = -1 := by omega
  rw [hE] at hidx
  clear h hn hge hE
  go_enter Tryz.func87, Tryz.ntmps87
  go_wp2_with fail
  refine hidx.mono ?_
  rintro e w1 ⟨rfl, rfl⟩
  clear hidx
  go_wp2
  go_ret2
  exact ⟨rfl, rfl⟩

set_option maxHeartbeats 1000000 in
set_option maxRecDepth 100000 in
theorem first_bad (p : Option Addr) (cap : Nat) (l : List UInt8) (hl : l.length ≤ 140737488355328) (w : World) (h : Row w (.slice p l.length cap) l) (hg : Glob w) (e : Nat) (he : Lib.indexByte (l.take 21) 59 = e)
    (hb : ∀ n, Lib.parseIntB 64 (l.take e) ≠ .ok n) :
    Calls Tryz.prog 87 #[.slice p l.length cap] w fun x w' => x = .returned (.tuple #[.int .i64 0, .int .i64 0]) ∧ Below w.heap.size w w' := by
  obtain ⟨hlc, hcm⟩ := Row.le w h
  obtain ⟨he1, he2⟩ := index_le l he
  have hidx := index_any p _ cap (l.take 21) w (Row.take21 h)
  rw [he] at hidx
  have hconv := Row.convert (Row.take h e (by omega))
  have hparse := parse_bad (l.take e) (by rw [List.length_take]; omega) hb w hg
  clear h he hb hg
  generalize l.take e = le at hconv hparse
  go_enter Tryz.func87, Tryz.ntmps87
  go_wp2_with fail
  refine hidx.mono ?_
  rintro x w1 ⟨rfl, rfl⟩
  clear hidx
  go_wp2_with fail
  refine hparse.mono ?_
  rintro x w1 ⟨z, T, N, rfl, hb1⟩
  clear hparse hconv
  go_wp2_with fail
  go_quiet (fail)
  go_wp2
  go_ret2
  exact ⟨rfl, hb1.trans ⟨rfl, rfl, rfl, Nat.le_refl _, fun _ _ => rfl⟩⟩

theorem below_drew (B : Nat) (w : World) : Below B w w.drew := ⟨rfl, rfl, rfl, Nat.le_refl _, fun _ _ => rfl⟩

set_option maxHeartbeats 4000000 in
set_option maxRecDepth 100000 in
theorem first_ok (p : Option Addr) (cap : Nat) (l : List UInt8) (hl : l.length ≤ 140737488355328) (w : World) (h : Row w (.slice p l.length cap) l) (hg : Glob w) (e : Nat) (he : Lib.indexByte (l.take 21) 59 = e)
    (n : Int) (hn : Lib.parseIntB 64 (l.take e) = .ok n) :
    Calls Tryz.prog 87 #[.slice p l.length cap] w fun x w' => x = .returned (.tuple #[.int .i64 (if numB n == l.take (e + 1) then n else 0), .int .i64 (if numB n == l.take (e + 1) then (e : Int) + 1 else 0)]) ∧ Below w.heap.size w w' := by
  obtain ⟨hlc, hcm⟩ := Row.le w h
  obtain ⟨he1, he2⟩ := index_le l he
  have hidx := index_any p _ cap (l.take 21) w (Row.take21 h)
  rw [he] at hidx
  have hconv := Row.convert (Row.take h e (by omega))
  have hparse := parse_ok (l.take e) (by rw [List.length_take]; omega) n hn w
  have hI : I64 n := by
    have := Lib.parseIntB_bounds hn
    exact ⟨by simpa using this.1, by have := this.2; simp at this; omega⟩
  have HR := Lib.hid (Row.take h (e + 1) (by omega))
  have HI := Lib.hid hI
  have HG := Lib.hid hg
  clear h he hn hg hI
  generalize l.take e = le at hconv hparse
  generalize l.take (e + 1) = le1 at HR ⊢
  go_enter Tryz.func87, Tryz.ntmps87
  go_wp2_with fail
  refine hidx.mono ?_
  rintro x w1 ⟨rfl, rfl⟩
  clear hidx
  go_wp2_with fail
  refine hparse.mono ?_
  rintro x w1 ⟨rfl, hb1⟩
  clear hparse hconv
  have HB := Lib.hid hb1
  clear hb1
  go_wp2_with fail
  have hi1 : IntKind.i64.wrap ((e : Int) + 1) = (e : Int) + 1 := IntWalk.i64_in _ (by omega)
  have hi2 : (0 : Int) ≤ (e : Int) + 1 := by omega
  have hi3 : ((e : Int) + 1).toNat = e + 1 := by omega
  have hi4 : ((e : Int) + 1) ≤ (cap : Int) := by omega
  have HT : Hid (Tab w1.drew) := ((HG.out.below HB.out).below ⟨rfl, rfl, rfl, Nat.le_refl _, fun _ _ => rfl⟩).1
  have HR1 : Hid (Row w1.drew (.slice p (e + 1) cap) le1) := Row.below (Row.below HR.out HB.out) ⟨rfl, rfl, rfl, Nat.le_refl _, fun _ _ => rfl⟩
  go_region_with (first | (go_at_call 41; refine (num_any2 n HI.out _ HT.out).mono ?_; rintro x w2 ⟨p2, c2, rfl, hr2, hb2⟩; have HB2 := Lib.hid hb2; have HR2 := Lib.hid hr2; clear hb2 hr2) | (go_at_call 62; refine (equal_any _ _ _ _ _ _ (numB n) le1 _ HR2.out (Row.below HR1.out HB2.out)).mono ?_; rintro x w3 ⟨rfl, rfl⟩))
  have HBB : Hid (Below w.heap.size w w2) := (HB.out.trans (below_drew _ w1)).trans (HB2.out.mono (by have := HB.out.size; simpa using this))
  cases hq : (numB n == le1)
  all_goals
    go_wp2
    all_goals
      go_ret2
      exact ⟨rfl, HBB.out⟩
end Go.Proofs.YtilplpjdbkipoaaGreatDoor.NetP

namespace Go.Proofs.YtilplpjdbkipoaaGreatDoor.NetP
open Go Go.Shelf Go.RowKit NetMath NetMem

/-- WHAT firstNum ANSWERS. -/
theorem first_any (v : Value) (l : List UInt8) (hl : l.length ≤ 140737488355328) (w : World) (h : Row w v l) (hg : Glob w) :
    Calls Tryz.prog 87 #[v] w fun e w' => e = .returned (.tuple #[.int .i64 (numV l), .int .i64 (firstK l)]) ∧ Below w.heap.size w w' := by
  obtain ⟨p, cap, rfl, -⟩ := id h
  by_cases hneg : Lib.indexByte (l.take 21) 59 < 0
  · refine (first_none p cap l w h hneg).mono fun e w' ⟨he, hw⟩ => ?_
    subst hw
    have e1 : firstN l = none := by unfold firstN; simp only; rw [if_pos hneg]
    unfold numV firstK
    rw [e1]
    exact ⟨he, Below.refl _ _⟩
  · obtain ⟨e, he⟩ : ∃ e : Nat, Lib.indexByte (l.take 21) 59 = e := ⟨(Lib.indexByte (l.take 21) 59).toNat, by omega⟩
    have e0 : (Lib.indexByte (l.take 21) 59).toNat = e := by omega
    cases hp : Lib.parseIntB 64 (l.take e) with
    | ok n =>
      refine (first_ok p cap l hl w h hg e he n hp).mono fun x w' ⟨hx, hb⟩ => ⟨?_, hb⟩
      rw [hx]
      have e1 : firstN l = if numB n = l.take (e + 1) then some (n, e + 1) else none := by
        unfold firstN
        simp only
        rw [if_neg hneg, e0, hp]
      unfold numV firstK
      rw [e1]
      by_cases hq : numB n = l.take (e + 1)
      · simp [hq]
      · simp [hq]
    | _ =>
      refine (first_bad p cap l hl w h hg e he (fun n hn => by rw [hp] at hn; cases hn)).mono fun x w' ⟨hx, hb⟩ => ⟨?_, hb⟩
      have e1 : firstN l = none := by
        unfold firstN
        simp only
        rw [if_neg hneg, e0, hp]
      unfold numV firstK
      rw [hx, e1]
      rfl

/-- The world is as it was but for the Reader's own block, and new blocks. -/
def Kept (r : Nat) (w w' : World) : Prop := w.grownBy w' (some r)

theorem Kept.of_below {r : Nat} {w w' : World} (h : Below w.heap.size w w') : Kept r w w' := ⟨h.os, h.tape, h.output, h.size, fun k hk _ => h.block k hk⟩

theorem Kept.below {r B : Nat} {w w' : World} (h : Kept r w w') (hB : B ≤ w.heap.size) (hr : B ≤ r) : Below B w w' := (Below.refl B w).grown h hB (fun k hk => by cases hk; exact hr)

/-- The Reader's slice lies in another block than the Reader. -/
theorem Row.far {w : World} {r : Nat} {T : TypeId} {p : Option Addr} {n k : Nat} (hr : w.heap[r]? = some (.cells #[.slice p n k] T (0, 0))) {b o : Nat} {c : Int} (hc : w.cell? ⟨b, o, none⟩ = some (.int .u8 c)) : b ≠ r := by
  rintro rfl
  simp only [World.cell?, hr] at hc
  cases o with
  | zero => simp at hc
  | succ o => simp at hc

theorem Row.kept {w w' : World} {r : Nat} {T : TypeId} {p : Option Addr} {n k : Nat} (hr : w.heap[r]? = some (.cells #[.slice p n k] T (0, 0))) (hk : Kept r w w') {v : Value} {l : List UInt8} (h : Row w v l) : Row w' v l :=
  h.keep fun b o c hc => by
    have hne := Row.far hr hc
    exact hk.cell hc (by simpa using hne)

theorem Row.drop {w : World} {p : Option Addr} {n cap : Nat} {l : List UInt8} (h : Row w (.slice p n cap) l) (k : Nat) (hk : k ≤ l.length) :
    Row w (.slice (if cap = k then p else p.map (·.add k)) (n - k) (cap - k)) (l.drop k) := by
  obtain ⟨rfl, hlc, hcm, hc⟩ := Row.nums h
  refine ⟨_, cap - k, by rw [List.length_drop], by rw [List.length_drop]; omega, by omega, fun h0 => ?_⟩
  obtain ⟨b, o, hp, hcc⟩ := hc (by omega)
  refine ⟨b, o + k, ?_, fun i hi => ?_⟩
  · rw [if_neg (by omega), hp, Option.map_some, Lib.add_plain]
  · rw [List.length_drop] at hi
    have := hcc (k + i) (by omega)
    rw [List.getElem_drop, Nat.add_assoc]
    exact this

theorem Rd.cell {T : TypeId} {w : World} {r : Nat} {x : Value} (h : w.heap[r]? = some (.cells #[x] T (0, 0))) : w.cell? ⟨r, 0, none⟩ = some x ∧ w.frozen? ⟨r, 0, none⟩ = false ∧ r < w.heap.size :=
  ⟨by simp [World.cell?, h], by simp [World.frozen?, h], (Array.getElem?_eq_some_iff.1 h).1⟩

/-- A store into a Reader's field. -/
theorem Rd.set {T : TypeId} {w : World} {r : Nat} {x y : Value} (h : w.heap[r]? = some (.cells #[x] T (0, 0))) : (w.setCell ⟨r, 0, none⟩ y).heap[r]? = some (.cells #[y] T (0, 0)) := by
  simp [World.setCell, Array.getElem?_modify, h]

theorem Kept.set (w : World) (r : Nat) (y : Value) : Kept r w (w.setCell ⟨r, 0, none⟩ y) :=
  ⟨rfl, rfl, rfl, by simp [World.setCell], fun k _ hk => Below.heap_setCell _ _ _ _ (fun e => hk (by rw [e]))⟩

theorem Kept.trans {r : Nat} {a b c : World} (h : Kept r a b) (k : Kept r b c) : Kept r a c :=
  ⟨k.os.trans h.os, k.tape.trans h.tape, k.output.trans h.output, Nat.le_trans h.size k.size, fun i hi hr => (k.block i (Nat.lt_of_lt_of_le hi h.size) hr).trans (h.block i hi hr)⟩

set_option maxHeartbeats 1000000 in
set_option maxRecDepth 100000 in
theorem rnum_any (r : Nat) (l : List UInt8) (hl : l.length ≤ 140737488355328) (w : World) (h : Rd 122 w r l) (hg : Glob w) :
    Calls Tryz.prog 77 #[.pointer (some ⟨r, 0, none⟩)] w fun e w' => e = .returned (.tuple #[.int .i64 (numV l), .bool (numOk l)]) ∧ Rd 122 w' r (numRest l) ∧ Kept r w w' := by
  obtain ⟨v, hr, hv⟩ := h
  obtain ⟨p, cap, hv0, -⟩ := id hv
  subst hv0
  obtain ⟨hcell, hfree, hlt⟩ := Rd.cell hr
  obtain ⟨hlc, hcm⟩ := Row.le w hv
  have hf := first_any _ l hl w hv hg
  have HV := Lib.hid hv
  have HR := Lib.hid hr
  clear hv hr hg
  cases hx : firstN l with
  | none =>
    have e1 : numV l = 0 := by unfold numV; rw [hx]
    have e2 : firstK l = 0 := by unfold firstK; rw [hx]
    have e3 : numOk l = false := by unfold numOk; rw [hx]; rfl
    have e4 : numRest l = l := by unfold numRest; rw [hx]
    rw [e1, e2] at hf
    rw [e1, e3, e4]
    clear e1 e2 e3 e4 hx
    go_enter Tryz.func77, Tryz.ntmps77
    go_wp2_with fail
    refine hf.mono ?_
    rintro e w1 ⟨rfl, hb⟩
    clear hf
    have HB := Lib.hid hb
    clear hb
    go_wp2_with fail
    go_ret2
    exact ⟨rfl, ⟨_, (HB.out.block r hlt).trans HR.out, HV.out.below HB.out⟩, Kept.of_below HB.out⟩
  | some x =>
    obtain ⟨n, k⟩ := x
    obtain ⟨-, ht, hk, hkl⟩ := firstN_prefix hx
    have e1 : numV l = n := by unfold numV; rw [hx]
    have e2 : firstK l = k := by unfold firstK; rw [hx]
    have e3 : numOk l = true := by unfold numOk; rw [hx]; rfl
    have e4 : numRest l = l.drop k := by unfold numRest; rw [hx]
    rw [e1, e2] at hf
    rw [e1, e3, e4]
    have hk0 : 0 < k := by rw [hk]; simp [numB]
    clear e1 e2 e3 e4 hx ht hk
    obtain ⟨b, o, hp, -⟩ := (Row.nums HV.out).2.2.2 (by omega)
    subst hp
    go_enter Tryz.func77, Tryz.ntmps77
    go_wp2_with fail
    refine hf.mono ?_
    rintro e w1 ⟨rfl, hb⟩
    clear hf
    have hc1 : w1.cell? ⟨r, 0, none⟩ = some (.slice (some ⟨b, o, none⟩) l.length cap) := by rw [hb.cell (p := ⟨r, 0, none⟩) hlt]; exact hcell
    have hf1 : w1.frozen? ⟨r, 0, none⟩ = false := by rw [hb.frozen (p := ⟨r, 0, none⟩) hlt]; exact hfree
    have HB := Lib.hid hb
    clear hb hcell hfree
    have h0 : ((k : Int) == 0) = false := by simp; omega
    have HR1 := Lib.hid ((HB.out.block r hlt).trans HR.out)
    have HD := Lib.hid (Row.drop (HV.out.below HB.out) k hkl)
    have HK := Lib.hid (Kept.of_below (r := r) HB.out)
    go_wp2_with fail
    all_goals
      go_ret2
      refine ⟨rfl, ⟨_, Rd.set HR1.out, ?_⟩, HK.out.trans (Kept.set _ _ _)⟩
      have hd := HD.out
      first
        | rw [if_pos ‹cap = k›, show cap - k = 0 by omega] at hd
        | rw [if_neg ‹¬cap = k›, Option.map_some, Lib.add_plain] at hd
      exact Row.kept HR1.out (Kept.set _ _ _) hd

/-- Of nil. -/
theorem rnum_nil (w : World) :
    Calls Tryz.prog 77 #[.pointer none] w fun e w' => e = .returned (.tuple #[.int .i64 0, .bool false]) ∧ w = w' := by
  go_enter Tryz.func77, Tryz.ntmps77
  go_wp2
  go_ret2
  exact ⟨rfl, rfl⟩
theorem rtext_nil (w : World) :
    Calls Tryz.prog 78 #[.pointer none] w fun e w' => e = .returned (.tuple #[.string ⟨#[]⟩, .bool false]) ∧ w = w' := by
  go_enter Tryz.func78, Tryz.ntmps78
  go_wp2
  go_ret2
  exact ⟨rfl, rfl⟩

set_option maxHeartbeats 1000000 in
set_option maxRecDepth 100000 in
/-- Text, where no Num comes next. -/
theorem rtext_none (r : Nat) (l : List UInt8) (hl : l.length ≤ 140737488355328) (w : World) (h : Rd 122 w r l) (hg : Glob w) (hx : firstN l = none) :
    Calls Tryz.prog 78 #[.pointer (some ⟨r, 0, none⟩)] w fun e w' => e = .returned (.tuple #[.string ⟨#[]⟩, .bool false]) ∧ Rd 122 w' r l ∧ Kept r w w' := by
  obtain ⟨v, hr, hv⟩ := h
  obtain ⟨p, cap, hv0, -⟩ := id hv
  subst hv0
  obtain ⟨hcell, hfree, hlt⟩ := Rd.cell hr
  obtain ⟨hlc, hcm⟩ := Row.le w hv
  have hf := first_any _ l hl w hv hg
  have HV := Lib.hid hv
  have HR := Lib.hid hr
  have e1 : numV l = 0 := by unfold numV; rw [hx]
  have e2 : firstK l = 0 := by unfold firstK; rw [hx]
  rw [e1, e2] at hf
  clear hv hr hg e1 e2 hx
  go_enter Tryz.func78, Tryz.ntmps78
  go_wp2_with fail
  refine hf.mono ?_
  rintro e w1 ⟨rfl, hb⟩
  clear hf
  have hc1 : w1.cell? ⟨r, 0, none⟩ = some (.slice p l.length cap) := by rw [hb.cell (p := ⟨r, 0, none⟩) hlt]; exact hcell
  have HB := Lib.hid hb
  clear hb hcell hfree
  go_wp2_with fail
  go_ret2
  exact ⟨rfl, ⟨_, (HB.out.block r hlt).trans HR.out, HV.out.below HB.out⟩, Kept.of_below HB.out⟩

set_option maxHeartbeats 1000000 in
set_option maxRecDepth 100000 in
/-- Text, where a Num comes next that is no length of what is behind it. -/
theorem rtext_long (r : Nat) (l : List UInt8) (hl : l.length ≤ 140737488355328) (w : World) (h : Rd 122 w r l) (hg : Glob w) (n : Int) (k : Nat) (hx : firstN l = some (n, k)) (hn : n < 0 ∨ ((l.length - k : Nat) : Int) < n) :
    Calls Tryz.prog 78 #[.pointer (some ⟨r, 0, none⟩)] w fun e w' => e = .returned (.tuple #[.string ⟨#[]⟩, .bool false]) ∧ Rd 122 w' r l ∧ Kept r w w' := by
  obtain ⟨v, hr, hv⟩ := h
  obtain ⟨p, cap, hv0, -⟩ := id hv
  subst hv0
  obtain ⟨hcell, hfree, hlt⟩ := Rd.cell hr
  obtain ⟨hlc, hcm⟩ := Row.le w hv
  have hf := first_any _ l hl w hv hg
  have HV := Lib.hid hv
  have HR := Lib.hid hr
  obtain ⟨-, -, hk, hkl⟩ := firstN_prefix hx
  have e1 : numV l = n := by unfold numV; rw [hx]
  have e2 : firstK l = k := by unfold firstK; rw [hx]
  have hk0 : 0 < k := by rw [hk]; simp [numB]
  rw [e1, e2] at hf
  clear hv hr hg e1 e2 hx hk
  obtain ⟨b, o, hp, -⟩ := (Row.nums HV.out).2.2.2 (by omega)
  subst hp
  have h0 : ((k : Int) == 0) = false := by simp; omega
  have hcast : ((l.length - k : Nat) : Int) = (l.length : Int) - (k : Int) := by omega
  by_cases hneg : n < 0
  · clear hn hcast
    go_enter Tryz.func78, Tryz.ntmps78
    go_wp2_with fail
    refine hf.mono ?_
    rintro e w1 ⟨rfl, hb⟩
    clear hf
    have hc1 : w1.cell? ⟨r, 0, none⟩ = some (.slice (some ⟨b, o, none⟩) l.length cap) := by rw [hb.cell (p := ⟨r, 0, none⟩) hlt]; exact hcell
    have HB := Lib.hid hb
    clear hb hcell hfree
    go_wp2_with fail
    all_goals
      go_ret2
      exact ⟨rfl, ⟨_, (HB.out.block r hlt).trans HR.out, HV.out.below HB.out⟩, Kept.of_below HB.out⟩
  · have hlong : ((l.length - k : Nat) : Int) < n := by omega
    have hlong2 : (l.length : Int) - (k : Int) < n := by omega
    have hpos : 0 ≤ n := by omega
    clear hn hneg hcast
    go_enter Tryz.func78, Tryz.ntmps78
    go_wp2_with fail
    refine hf.mono ?_
    rintro e w1 ⟨rfl, hb⟩
    clear hf
    have hc1 : w1.cell? ⟨r, 0, none⟩ = some (.slice (some ⟨b, o, none⟩) l.length cap) := by rw [hb.cell (p := ⟨r, 0, none⟩) hlt]; exact hcell
    have HB := Lib.hid hb
    clear hb hcell hfree
    go_wp2_with fail
    all_goals
      go_ret2
      exact ⟨rfl, ⟨_, (HB.out.block r hlt).trans HR.out, HV.out.below HB.out⟩, Kept.of_below HB.out⟩
end Go.Proofs.YtilplpjdbkipoaaGreatDoor.NetP

namespace Go.Proofs.YtilplpjdbkipoaaGreatDoor.NetP
open Go Go.Shelf Go.RowKit NetMath NetMem

set_option maxHeartbeats 2000000 in
set_option maxRecDepth 100000 in
/-- Text, where one comes next. -/
theorem rtext_ok (r : Nat) (l : List UInt8) (hl : l.length ≤ 140737488355328) (w : World) (h : Rd 122 w r l) (hg : Glob w) (m k : Nat) (hx : firstN l = some ((m : Int), k)) (hm : m ≤ l.length - k) :
    Calls Tryz.prog 78 #[.pointer (some ⟨r, 0, none⟩)] w fun e w' => e = .returned (.tuple #[.string ⟨((l.drop k).take m).toArray⟩, .bool true]) ∧ Rd 122 w' r ((l.drop k).drop m) ∧ Kept r w w' := by
  obtain ⟨v, hr, hv⟩ := h
  obtain ⟨p, cap, hv0, -⟩ := id hv
  subst hv0
  obtain ⟨hcell, hfree, hlt⟩ := Rd.cell hr
  obtain ⟨hlc, hcm⟩ := Row.le w hv
  have hf := first_any _ l hl w hv hg
  have HV := Lib.hid hv
  have HR := Lib.hid hr
  obtain ⟨-, -, hk, hkl⟩ := firstN_prefix hx
  have e1 : numV l = (m : Int) := by unfold numV; rw [hx]
  have e2 : firstK l = k := by unfold firstK; rw [hx]
  have hk0 : 0 < k := by rw [hk]; simp [numB]
  rw [e1, e2] at hf
  clear hv hr hg e1 e2 hx hk
  obtain ⟨b, o, hp, -⟩ := (Row.nums HV.out).2.2.2 (by omega)
  subst hp
  have h0 : ((k : Int) == 0) = false := by simp; omega
  have hnn : ¬ ((m : Int) < 0) := by omega
  have hlong : ¬ (((l.length - k : Nat) : Int) < (m : Int)) := by omega
  have hlong2 : ¬ ((l.length : Int) - (k : Int) < (m : Int)) := by omega
  have hmc : m ≤ cap - k := by omega
  have hlen : (l.drop k).length = l.length - k := List.length_drop
  have HL := Lib.hid hlen
  clear hlen
  by_cases hck : cap = k
  · subst hck
    have hl2 : l.length = cap := by omega
    have hm0 : m = 0 := by omega
    subst hm0
    have hd0 : l.drop cap = [] := List.drop_eq_nil_of_le (by omega)
    rw [hd0]
    have HL2 := Lib.hid hl2
    have hz : l.length - cap = 0 := by omega
    have hz2 : (l.length : Int) - (cap : Int) = 0 := by omega
    have hlc2 : cap ≤ l.length := by omega
    clear hl2 hd0 hl HL hlc
    go_enter Tryz.func78, Tryz.ntmps78
    go_wp2_with fail
    refine hf.mono ?_
    rintro e w1 ⟨rfl, hb⟩
    clear hf
    have hc1 : w1.cell? ⟨r, 0, none⟩ = some (.slice (some ⟨b, o, none⟩) l.length cap) := by rw [hb.cell (p := ⟨r, 0, none⟩) hlt]; exact hcell
    have hf1 : w1.frozen? ⟨r, 0, none⟩ = false := by rw [hb.frozen (p := ⟨r, 0, none⟩) hlt]; exact hfree
    have HB := Lib.hid hb
    clear hb hcell hfree
    have HR1 := Lib.hid ((HB.out.block r hlt).trans HR.out)
    have hconv : ∀ W : World, (convert 56 9 (.slice (some ⟨b, o, none⟩) 0 0)).run Tryz.prog W = .ok (.string ⟨#[]⟩) W := fun W =>
      Row.convert (l := []) ⟨_, 0, rfl, Nat.le_refl _, by simp [maxLen], fun h => absurd h (Nat.lt_irrefl 0)⟩
    have HK := Lib.hid (Kept.of_below (r := r) HB.out)
    go_wp2_with fail
    go_ret2
    refine ⟨rfl, ⟨_, Rd.set HR1.out, ?_⟩, HK.out.trans (Kept.set _ _ _)⟩
    exact ⟨_, 0, rfl, Nat.le_refl _, by simp [maxLen], fun h => absurd h (Nat.lt_irrefl 0)⟩
  · have hdrop := Row.drop HV.out k hkl
    rw [if_neg hck, Option.map_some, Lib.add_plain] at hdrop
    have HD := Lib.hid hdrop
    clear hdrop
    go_enter Tryz.func78, Tryz.ntmps78
    go_wp2_with fail
    refine hf.mono ?_
    rintro e w1 ⟨rfl, hb⟩
    clear hf
    have hc1 : w1.cell? ⟨r, 0, none⟩ = some (.slice (some ⟨b, o, none⟩) l.length cap) := by rw [hb.cell (p := ⟨r, 0, none⟩) hlt]; exact hcell
    have hf1 : w1.frozen? ⟨r, 0, none⟩ = false := by rw [hb.frozen (p := ⟨r, 0, none⟩) hlt]; exact hfree
    have HB := Lib.hid hb
    clear hb hcell hfree
    have HR1 := Lib.hid ((HB.out.block r hlt).trans HR.out)
    have HD1 : Hid (Row w1 (.slice (some ⟨b, o + k, none⟩) (l.length - k) (cap - k)) (l.drop k)) := HD.out.below HB.out
    have hconv : ∀ X, (convert 56 9 (.slice (some ⟨b, o + k, none⟩) m (cap - k))).run Tryz.prog (w1.setCell ⟨r, 0, none⟩ X) = .ok (.string ⟨((l.drop k).take m).toArray⟩) (w1.setCell ⟨r, 0, none⟩ X) := fun X =>
      Row.convert (Row.take (n := l.length - k) (Row.kept HR1.out (Kept.set _ _ _) HD1.out) m (by rw [HL.out]; exact hm))
    have HK := Lib.hid (Kept.of_below (r := r) HB.out)
    go_wp2_with fail
    all_goals
      go_ret2
      refine ⟨rfl, ⟨_, Rd.set HR1.out, ?_⟩, HK.out.trans (Kept.set _ _ _)⟩
      have hd := Row.drop HD1.out m (by rw [HL.out]; exact hm)
      first
        | rw [if_pos ‹cap - k = m›, show cap - k - m = 0 by omega] at hd
        | rw [if_neg ‹¬cap - k = m›, Option.map_some, Lib.add_plain] at hd
      rw [List.drop_drop] at hd
      exact Row.kept HR1.out (Kept.set _ _ _) hd

/-- WHAT Reader.Text ANSWERS AND LEAVES. -/
theorem rtext_any (r : Nat) (l : List UInt8) (hl : l.length ≤ 140737488355328) (w : World) (h : Rd 122 w r l) (hg : Glob w) :
    Calls Tryz.prog 78 #[.pointer (some ⟨r, 0, none⟩)] w fun e w' => e = .returned (.tuple #[.string ⟨(textV l).toArray⟩, .bool (textOk l)]) ∧ Rd 122 w' r (textRest l) ∧ Kept r w w' := by
  unfold textV textOk textRest textOf
  cases hx : firstN l with
  | none => exact rtext_none r l hl w h hg hx
  | some x =>
    obtain ⟨n, k⟩ := x
    simp only
    by_cases hn : n < 0 ∨ ((l.length - k : Nat) : Int) < n
    · rw [if_pos hn]
      exact rtext_long r l hl w h hg n k hx hn
    · rw [if_neg hn]
      obtain ⟨m, rfl⟩ : ∃ m : Nat, n = (m : Int) := ⟨n.toNat, by omega⟩
      rw [Int.toNat_natCast]
      exact rtext_ok r l hl w h hg m k hx (by omega)
end Go.Proofs.YtilplpjdbkipoaaGreatDoor.NetP
