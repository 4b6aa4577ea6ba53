/-
  Proved: net.firstNum, Reader.Num, Reader.Text answer and leave what the plain functions numV, textV and their kin say. Conditions: at most 2^47 bytes are left; the library's table and its two sentinel errors read as laid.
-/
import Derived.Test.YtilplpjdbkipoaaDoorNetPut
import Derived.Lib.SlFresh
import Derived.Shelf.Bytes.SlEqualAll
import Derived.Deep.RegionWith
import Derived.Deep.Cut
import Derived.Deep.DeepCutAuto
import Derived.Deep.QuietTactic
import Derived.BigQuiet
import Derived.WalkSpells
import Derived.Outline
import Derived.IntWalk
namespace Go.Proofs.YtilplpjdbkipoaaDoor.NetP
open Go Go.Shelf Go.RowKit NetMath NetMem

/-- What the library's own variables hold. -/
def Glob (w : World) : Prop := Tab w ∧ (∃ tp p, w.var? Tryd.prog "strconv.ErrSyntax" = some #[.iface tp p]) ∧ (∃ tp p, w.var? Tryd.prog "strconv.ErrRange" = some #[.iface tp p])

theorem gTab : Tryd.prog.globalNamed "internal/strconv.uint64pow10" = some 0 := by kernel_rfl
theorem gSyn : Tryd.prog.globalNamed "strconv.ErrSyntax" = some 2 := by kernel_rfl
theorem gRng : Tryd.prog.globalNamed "strconv.ErrRange" = some 3 := by kernel_rfl

/-- They hold it still where the three first blocks stand. -/
theorem var_keep {w w' : World} {n : String} {g : Nat} (hg : Tryd.prog.globalNamed n = some g) (hk : w'.heap[g]? = w.heap[g]?) {cs : Array Value} (h : w.var? Tryd.prog n = some cs) : w'.var? Tryd.prog n = some cs := by
  unfold World.var? at h ⊢
  simp only [hg, Option.bind_some] at h ⊢
  rw [hk]; exact h

theorem var_lt {w : World} {n : String} {g : Nat} (hg : Tryd.prog.globalNamed n = some g) {cs : Array Value} (h : w.var? Tryd.prog n = some cs) : g < w.heap.size := by
  unfold World.var? at h
  simp only [hg, Option.bind_some] at h
  rcases Nat.lt_or_ge g w.heap.size with h' | h'
  · exact h'
  · simp [Array.getElem?_eq_none h'] at h

theorem Glob.keep {w w' : World} (h : Glob w) (hk : ∀ k, k < 4 → w'.heap[k]? = w.heap[k]?) : Glob w' := by
  obtain ⟨h1, ⟨t2, p2, h2⟩, ⟨t3, p3, h3⟩⟩ := h
  exact ⟨var_keep gTab (hk _ (by decide)) h1, ⟨t2, p2, var_keep gSyn (hk _ (by decide)) h2⟩, ⟨t3, p3, var_keep gRng (hk _ (by decide)) h3⟩⟩

theorem Glob.below {w w' : World} (h : Glob w) (hb : Below w.heap.size w w') : Glob w' := by
  obtain ⟨h1, ⟨t2, p2, h2⟩, ⟨t3, p3, h3⟩⟩ := h
  exact ⟨var_keep gTab (hb.block _ (var_lt gTab h1)) h1, ⟨t2, p2, var_keep gSyn (hb.block _ (var_lt gSyn h2)) h2⟩, ⟨t3, p3, var_keep gRng (hb.block _ (var_lt gRng h3)) h3⟩⟩

theorem Glob.size {w : World} (h : Glob w) : 4 ≤ w.heap.size := by
  obtain ⟨_, _, ⟨t3, p3, h3⟩⟩ := h
  have := var_lt gRng h3
  omega

theorem Row.bytesIn {w : World} {p : Option Addr} {n cap : Nat} {l : List UInt8} (h : Row w (.slice p n cap) l) : Lib.BytesIn w p n (Lib.numsL l) := by
  obtain ⟨rfl, hlc, hcm, hc⟩ := Row.nums h
  intro h0
  obtain ⟨b, o, hp, hcc⟩ := hc (by omega)
  exact ⟨b, o, hp, fun i hi => by rw [numsL_getD l i hi]; exact hcc i hi⟩

theorem Row.take {w : World} {p : Option Addr} {n cap : Nat} {l : List UInt8} (h : Row w (.slice p n cap) l) (k : Nat) (hk : k ≤ l.length) : Row w (.slice p k cap) (l.take k) := by
  obtain ⟨rfl, hlc, hcm, hc⟩ := Row.nums h
  have e : (l.take k).length = k := by rw [List.length_take]; omega
  refine ⟨p, cap, by rw [e], by omega, hcm, fun h0 => ?_⟩
  obtain ⟨b, o, hp, hcc⟩ := hc h0
  exact ⟨b, o, hp, fun i hi => by rw [List.getElem_take]; exact hcc i (by omega)⟩

theorem str_nums (l : List UInt8) : strOfNums (Lib.numsL l) = ⟨l.toArray⟩ := by
  unfold strOfNums Lib.numsL
  congr 1
  rw [List.map_map]
  congr 1
  conv => rhs; rw [← List.map_id l]
  apply List.map_congr_left
  intro x _
  simp

theorem Row.convert {w : World} {p : Option Addr} {n cap : Nat} {l : List UInt8} (h : Row w (.slice p n cap) l) :
    (convert 26 9 (.slice p n cap)).run Tryd.prog w = .ok (.string ⟨l.toArray⟩) w := by
  have hn := (Row.nums h).1
  have := (Row.bytesIn h).convert (P := Tryd.prog) (by rw [Lib.numsL_length, hn]) cap 26 5 9 Tryd.underlying26 Tryd.underlying5 Tryd.underlying9
  rwa [str_nums] at this

/-- bytes.IndexByte, of whatever can be read. -/
theorem index_any (p : Option Addr) (n cap : Nat) (l : List UInt8) (w : World) (h : Row w (.slice p n cap) l) :
    Calls Tryd.prog 68 #[.slice p n cap, .int .u8 59] w fun e w' => e = .returned (.int .i64 (Lib.indexByte l 59)) ∧ w = w' := by
  obtain ⟨rfl, hlc, hcm, hc⟩ := Row.nums h
  cases p with
  | none =>
    rcases Nat.eq_zero_or_pos cap with h0 | h0
    · have hl : l = [] := List.eq_nil_of_length_eq_zero (by omega)
      subst hl
      subst h0
      exact (Tryd.bytes_IndexByte_nil 59 w).mono fun e w' ⟨he, hw⟩ => ⟨he, hw.symm⟩
    · obtain ⟨b, o, hp, _⟩ := hc h0
      cases hp
  | some a =>
    refine (Tryd.bytes_IndexByte_at a l.length cap (Lib.numsL l) 59 w (Lib.numsL_length l) (fun i hi => ?_)).mono fun e w' ⟨he, hw⟩ => ⟨?_, hw.symm⟩
    · obtain ⟨b, o, hp, hcc⟩ := hc (by omega)
      simp only [Option.some.injEq] at hp
      subst hp
      rw [Lib.add_plain, numsL_getD l i hi]
      exact hcc i hi
    · rw [he, Lib.bytesOf_numsL]; rfl

/-- strconv.ParseInt(s, 10, 64), where s spells an int64. -/
theorem parse_ok (l : List UInt8) (hl : l.length ≤ 140737488355328) (n : Int) (h : Lib.parseIntB 64 l = .ok n) (w : World) :
    Calls Tryd.prog 69 #[.string ⟨l.toArray⟩, .int .i64 10, .int .i64 64] w fun e w' => e = .returned (.tuple #[.int .i64 n, .nilIface]) ∧ Below w.heap.size w w' := by
  refine (Tryd.strconv_ParseInt_10_at64_ok ⟨l.toArray⟩ (by show l.toArray.size ≤ _; simp; omega) n (by simpa using h) w).mono fun e w' ⟨he, hw⟩ => ⟨he, ?_⟩
  rcases hw with rfl | ⟨t, rfl⟩
  · exact Below.refl _ _
  · exact ⟨rfl, rfl, rfl, by rw [Lib.bytesWorld_size]; omega, fun k hk => Lib.bytesWorld_at_old w _ t k hk⟩

/-- .. and where it does not: some error that is not nil. -/
def BadEnd (W : World) (e : Ending) (w' : World) : Prop := ∃ (z : Int) (T : TypeId) (N : Nat), e = .returned (.tuple #[.int .i64 z, .iface T (.pointer (some ⟨N, 0, none⟩))]) ∧ Below W.heap.size W w'
theorem parse_bad (l : List UInt8) (hl : l.length ≤ 140737488355328) (h : ∀ n, Lib.parseIntB 64 l ≠ .ok n) (w : World) (hg : Glob w) :
    Calls Tryd.prog 69 #[.string ⟨l.toArray⟩, .int .i64 10, .int .i64 64] w (BadEnd w) := by
  obtain ⟨_, ⟨t2, p2, h2⟩, ⟨t3, p3, h3⟩⟩ := hg
  have hsz : (⟨l.toArray⟩ : ByteArray).size ≤ 281474976710656 := by show l.toArray.size ≤ _; simp; omega
  cases hp : Lib.parseIntB 64 l with
  | ok n => exact absurd hp (h n)
  | range => exact (Tryd.strconv_ParseInt_10_at64_range_var ⟨l.toArray⟩ hsz (by simpa using hp) t3 p3 w h3).mono fun e w' ⟨N, he, _, _, hb⟩ => ⟨_, _, N, he, hb⟩
  | _ =>
    have hc := Any.strconv_ParseInt_10_at64_syntax_var Tryd.laysC174 ⟨l.toArray⟩ hsz (by simpa using hp) t2 p2 w h2
    exact hc.mono fun e w' ⟨N, he, _, _, hb⟩ => ⟨_, _, N, he, hb⟩

/-- bytes.Equal, of whatever can be read. -/
theorem equal_any (p1 p2 : Option Addr) (n c m d : Nat) (l1 l2 : List UInt8) (w : World) (h1 : Row w (.slice p1 n c) l1) (h2 : Row w (.slice p2 m d) l2) :
    Calls Tryd.prog 27 #[.slice p1 n c, .slice p2 m d] w fun e w' => e = .returned (.bool (l1 == l2)) ∧ w = w' := by
  refine (Tryd.bytes_Equal_all p1 p2 n c m d (Lib.numsL l1) (Lib.numsL l2) w (by rw [Lib.numsL_length, (Row.nums h1).1]) (by rw [Lib.numsL_length, (Row.nums h2).1]) (Row.bytesIn h1) (Row.bytesIn h2)).mono fun e w' ⟨he, hw⟩ => ⟨?_, hw.symm⟩
  rw [he, Lib.bytesOf_numsL, Lib.bytesOf_numsL]

/-- How many bytes the first Num has; 0: there is none. -/
def firstK (l : List UInt8) : Nat := match firstN l with | some (_, k) => k | none => 0

theorem num_any2 (n : Int) (hn : I64 n) (w : World) (ht : Tab w) :
    Calls Tryd.prog 23 #[.int .i64 n] w fun e w' => ∃ p c, e = .returned (.slice p (numB n).length c) ∧ Row w' (.slice p (numB n).length c) (numB n) ∧ Below w.heap.size w w' :=
  (num_any n hn w ht).mono fun e w' ⟨v, he, ho, hb⟩ => by
    obtain ⟨p, c, hv, -⟩ := id ho.row
    subst hv
    exact ⟨p, c, he, ho.row, hb⟩

theorem Row.take21 {w : World} {p : Option Addr} {cap : Nat} {l : List UInt8} (h : Row w (.slice p l.length cap) l) : Row w (.slice p (min (l.length : Int) 21).toNat cap) (l.take 21) := by
  have := Row.take h (min (l.length : Int) 21).toNat (by omega)
  have e : l.take (min (l.length : Int) 21).toNat = l.take 21 := by
    rcases Nat.lt_or_ge l.length 21 with h1 | h1
    · rw [show (min (l.length : Int) 21).toNat = l.length by omega, List.take_length, List.take_of_length_le (by omega)]
    · rw [show (min (l.length : Int) 21).toNat = 21 by omega]
  rwa [e] at this

theorem index_le (l : List UInt8) {e : Nat} (he : Lib.indexByte (l.take 21) 59 = e) : e < l.length ∧ e ≤ 20 := by
  have h1 := (Lib.indexByte_some he).1
  have h2 := (List.getElem?_eq_some_iff.1 h1).1
  rw [List.length_take] at h2
  omega

/-- A slice of bytes behind its length: what the walks want of it. -/
theorem Row.le (w : World) {p : Option Addr} {cap : Nat} {l : List UInt8} (h : Row w (.slice p l.length cap) l) : l.length ≤ cap ∧ cap ≤ 9223372036854775807 := by
  have := (Row.nums h).2
  have h2 := this.2.1
  unfold maxLen at h2
  exact ⟨this.1, by omega⟩

set_option maxHeartbeats 1000000 in
set_option maxRecDepth 100000 in
theorem first_none (p : Option Addr) (cap : Nat) (l : List UInt8) (w : World) (h : Row w (.slice p l.length cap) l) (hn : Lib.indexByte (l.take 21) 59 < 0) :
    Calls Tryd.prog 57 #[.slice p l.length cap] w fun e w' => e = .returned (.tuple #[.int .i64 0, .int .i64 0]) ∧ w = w' := by
  obtain ⟨hlc, hcm⟩ := Row.le w h
  have hidx := index_any p _ cap (l.take 21) w (Row.take21 h)
  have hge := Lib.indexByte_ge (l.take 21) 59
  have hE : Lib.indexByte (l.take 21) 59 = -1 := by omega
  rw [hE] at hidx
  clear h hn hge hE
  go_enter Tryd.func57, Tryd.ntmps57
  go_wp2_with fail
  refine hidx.mono ?_
  rintro e w1 ⟨rfl, rfl⟩
  clear hidx
  go_wp2
  go_ret2
  exact ⟨rfl, rfl⟩

set_option maxHeartbeats 1000000 in
set_option maxRecDepth 100000 in
theorem first_bad (p : Option Addr) (cap : Nat) (l : List UInt8) (hl : l.length ≤ 140737488355328) (w : World) (h : Row w (.slice p l.length cap) l) (hg : Glob w) (e : Nat) (he : Lib.indexByte (l.take 21) 59 = e)
    (hb : ∀ n, Lib.parseIntB 64 (l.take e) ≠ .ok n) :
    Calls Tryd.prog 57 #[.slice p l.length cap] w fun x w' => x = .returned (.tuple #[.int .i64 0, .int .i64 0]) ∧ Below w.heap.size w w' := by
  obtain ⟨hlc, hcm⟩ := Row.le w h
  obtain ⟨he1, he2⟩ := index_le l he
  have hidx := index_any p _ cap (l.take 21) w (Row.take21 h)
  rw [he] at hidx
  have hconv := Row.convert (Row.take h e (by omega))
  have hparse := parse_bad (l.take e) (by rw [List.length_take]; omega) hb w hg
  clear h he hb hg
  generalize l.take e = le at hconv hparse
  go_enter Tryd.func57, Tryd.ntmps57
  go_wp2_with fail
  refine hidx.mono ?_
  rintro x w1 ⟨rfl, rfl⟩
  clear hidx
  go_wp2_with fail
  refine hparse.mono ?_
  rintro x w1 ⟨z, T, N, rfl, hb1⟩
  clear hparse hconv
  go_wp2_with fail
  go_quiet (fail)
  go_wp2
  go_ret2
  exact ⟨rfl, hb1.trans ⟨rfl, rfl, rfl, Nat.le_refl _, fun _ _ => rfl⟩⟩

theorem below_drew (B : Nat) (w : World) : Below B w w.drew := ⟨rfl, rfl, rfl, Nat.le_refl _, fun _ _ => rfl⟩

set_option maxHeartbeats 4000000 in
set_option maxRecDepth 100000 in
theorem first_ok (p : Option Addr) (cap : Nat) (l : List UInt8) (hl : l.length ≤ 140737488355328) (w : World) (h : Row w (.slice p l.length cap) l) (hg : Glob w) (e : Nat) (he : Lib.indexByte (l.take 21) 59 = e)
    (n : Int) (hn : Lib.parseIntB 64 (l.take e) = .ok n) :
    Calls Tryd.prog 57 #[.slice p l.length cap] w fun x w' => x = .returned (.tuple #[.int .i64 (if numB n == l.take (e + 1) then n else 0), .int .i64 (if numB n == l.take (e + 1) then (e : Int) + 1 else 0)]) ∧ Below w.heap.size w w' := by
  obtain ⟨hlc, hcm⟩ := Row.le w h
  obtain ⟨he1, he2⟩ := index_le l he
  have hidx := index_any p _ cap (l.take 21) w (Row.take21 h)
  rw [he] at hidx
  have hconv := Row.convert (Row.take h e (by omega))
  have hparse := parse_ok (l.take e) (by rw [List.length_take]; omega) n hn w
  have hI : I64 n := by
    have := Lib.parseIntB_bounds hn
    exact ⟨by simpa using this.1, by have := this.2; simp at this; omega⟩
  have HR := Lib.hid (Row.take h (e + 1) (by omega))
  have HI := Lib.hid hI
  have HG := Lib.hid hg
  clear h he hn hg hI
  generalize l.take e = le at hconv hparse
  generalize l.take (e + 1) = le1 at HR ⊢
  go_enter Tryd.func57, Tryd.ntmps57
  go_wp2_with fail
  refine hidx.mono ?_
  rintro x w1 ⟨rfl, rfl⟩
  clear hidx
  go_wp2_with fail
  refine hparse.mono ?_
  rintro x w1 ⟨rfl, hb1⟩
  clear hparse hconv
  have HB := Lib.hid hb1
  clear hb1
  go_wp2_with fail
  have hi1 : IntKind.i64.wrap ((e : Int) + 1) = (e : Int) + 1 := IntWalk.i64_in _ (by omega)
  have hi2 : (0 : Int) ≤ (e : Int) + 1 := by omega
  have hi3 : ((e : Int) + 1).toNat = e + 1 := by omega
  have hi4 : ((e : Int) + 1) ≤ (cap : Int) := by omega
  have HT : Hid (Tab w1.drew) := ((HG.out.below HB.out).below ⟨rfl, rfl, rfl, Nat.le_refl _, fun _ _ => rfl⟩).1
  have HR1 : Hid (Row w1.drew (.slice p (e + 1) cap) le1) := Row.below (Row.below HR.out HB.out) ⟨rfl, rfl, rfl, Nat.le_refl _, fun _ _ => rfl⟩
  go_region_with (first | (go_at_call 23; refine (num_any2 n HI.out _ HT.out).mono ?_; rintro x w2 ⟨p2, c2, rfl, hr2, hb2⟩; have HB2 := Lib.hid hb2; have HR2 := Lib.hid hr2; clear hb2 hr2) | (go_at_call 27; refine (equal_any _ _ _ _ _ _ (numB n) le1 _ HR2.out (Row.below HR1.out HB2.out)).mono ?_; rintro x w3 ⟨rfl, rfl⟩))
  have HBB : Hid (Below w.heap.size w w2) := (HB.out.trans (below_drew _ w1)).trans (HB2.out.mono (by have := HB.out.size; simpa using this))
  cases hq : (numB n == le1)
  all_goals
    go_wp2
    all_goals
      go_ret2
      exact ⟨rfl, HBB.out⟩
end Go.Proofs.YtilplpjdbkipoaaDoor.NetP
