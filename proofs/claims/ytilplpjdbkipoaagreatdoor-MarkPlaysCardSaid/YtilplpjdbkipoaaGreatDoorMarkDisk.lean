/-
  Proved: plain facts on a journal over a disk's model: what Append, Scan make of it; what was appended of one generation is scanned; of one that crashed it, or all ahead of it. Conditions: as each says.
-/
import Derived.Test.YtilplpjdbkipoaaGreatDoorMarkMath
import Derived.Test.YtilplpjdbkipoaaGreatDoorSlotMath
namespace Go.Proofs.YtilplpjdbkipoaaGreatDoor.MarkMath
open Go NetMath DiskMath SumMath SpanMath

def jFrom (d : Dk) : Int := 2 * (room d : Int)
/-- Append: the next sector, the error, the disk. -/
def markAppend (d : Dk) (at_ : Int) (m : Mk) : Int × Int × Dk :=
  if m.is = false ∨ at_ < jFrom d ∨ (d.s.length : Int) ≤ at_ then (0, 1, d)
  else if (d.s.length : Int) < at_ + (need m.raw.length : Int) then (0, 4, d)
  else if (d.s.length : Int) = at_ + (need m.raw.length : Int) then
    (if (spanPut d at_ ((d.s.length : Int) - at_) (m.gen.toNat + 1) m.raw).1 ≠ 0 then (0, spanPut d at_ ((d.s.length : Int) - at_) (m.gen.toNat + 1) m.raw)
     else (at_ + (need m.raw.length : Int), spanPut d at_ ((d.s.length : Int) - at_) (m.gen.toNat + 1) m.raw))
  else if (spanClear d (at_ + (need m.raw.length : Int))).1 ≠ 0 then (0, spanClear d (at_ + (need m.raw.length : Int)))
  else (if (spanPut (spanClear d (at_ + (need m.raw.length : Int))).2 at_ ((d.s.length : Int) - at_) (m.gen.toNat + 1) m.raw).1 ≠ 0 then (0, spanPut (spanClear d (at_ + (need m.raw.length : Int))).2 at_ ((d.s.length : Int) - at_) (m.gen.toNat + 1) m.raw)
     else (at_ + (need m.raw.length : Int), spanPut (spanClear d (at_ + (need m.raw.length : Int))).2 at_ ((d.s.length : Int) - at_) (m.gen.toNat + 1) m.raw))
/-- The mark that stands at a sector, and how many sectors it has. -/
def markAt (d : Dk) (at_ gen : Int) : Option (Mk × Nat) :=
  match spanGet d at_ ((d.s.length : Int) - at_) with
  | some (t, b) => if (t : Int) = gen + 1 then (markRead b).map fun m => (m.of gen, need b.length) else none
  | none => none
def scanFrom (d : Dk) (gen : Int) : Nat → Nat → List Mk × Nat
  | 0, at_ => ([], at_)
  | f + 1, at_ => match markAt d at_ gen with
    | none => ([], at_)
    | some (m, k) => (m :: (scanFrom d gen f (at_ + k)).1, (scanFrom d gen f (at_ + k)).2)
def markScan (d : Dk) (gen : Int) : List Mk × Nat := if isGenB gen then scanFrom d gen (d.s.length + 1) (2 * room d) else ([], 2 * room d)

/-! ### What is read stands on the disk -/
theorem getB_lt4 (l : List UInt8) : getB l < 4294967296 := by
  unfold getB
  split
  · rename_i a b c d _
    have := a.toNat_lt; have := b.toNat_lt; have := c.toNat_lt; have := d.toNat_lt
    omega
  · omega
theorem get_fits {d : Dk} {at_ : Nat} {t : Nat} {b : List UInt8} (h : spanGet d at_ ((d.s.length : Int) - at_) = some (t, b)) : at_ + need b.length ≤ d.s.length ∧ t < 4294967296 := by
  have ht := (get_tag d _ _ t b h).1
  have hb := get_bytes d _ _ t b h
  refine ⟨?_, by rw [← ht]; exact getB_lt4 _⟩
  have hlen : b.length ≤ getB ((d.read (at_ : Int)).drop 4) := by rw [hb, List.length_take]; omega
  unfold spanGet at h
  split at h
  · cases h
  · split at h
    · cases h
    · split at h
      · cases h
      · rename_i hr
        unfold need cnt at *
        omega
theorem markAt_fits {d : Dk} {at_ k : Nat} {gen : Int} {m : Mk} (h : markAt d at_ gen = some (m, k)) : at_ + k ≤ d.s.length ∧ 1 ≤ k := by
  unfold markAt at h
  split at h
  · rename_i t b hg
    split at h
    · cases hr : markRead b with
      | none => rw [hr] at h; cases h
      | some x =>
        rw [hr] at h
        simp only [Option.map_some, Option.some.injEq, Prod.mk.injEq] at h
        obtain ⟨-, rfl⟩ := h
        exact ⟨(get_fits hg).1, by unfold need; omega⟩
    · cases h
  · cases h
theorem markAt_out (d : Dk) (at_ : Nat) (gen : Int) (h : d.s.length ≤ at_) : markAt d at_ gen = none := by
  have e : d.has (at_ : Int) = false := by simp [Dk.has]; omega
  unfold markAt
  rw [show spanGet d (at_ : Int) ((d.s.length : Int) - at_) = none by unfold spanGet; rw [if_pos e]]
theorem markAt_none (d : Dk) (at_ : Nat) (gen : Int) (h : spanGet d at_ ((d.s.length : Int) - at_) = none) : markAt d at_ gen = none := by
  unfold markAt; rw [h]
theorem markAt_some (d : Dk) (at_ : Nat) (m : Mk) (hm : m.is = true) (hs : I64 m.st) (ho : m.out.size ≤ 1000000) (h : spanGet d at_ ((d.s.length : Int) - at_) = some (m.gen.toNat + 1, m.raw)) : markAt d at_ m.gen = some (m, need m.raw.length) := by
  obtain ⟨g0, -⟩ := is_gen hm
  unfold markAt
  rw [h]
  simp only
  rw [if_pos (by omega), read_raw m hm hs (by omega)]
  rfl
theorem markAt_other (d : Dk) (at_ : Nat) (gen : Int) (t : Nat) (b : List UInt8) (h : spanGet d at_ ((d.s.length : Int) - at_) = some (t, b)) (hg : (t : Int) ≠ gen + 1) : markAt d at_ gen = none := by
  unfold markAt
  rw [h]
  simp only
  rw [if_neg hg]

/-! ### Marks side by side -/
/-- Marks of one generation, one behind the other. -/
def Laid (d : Dk) (gen : Int) : Nat → List Mk → Nat → Prop
  | a, [], z => a = z
  | a, m :: ms, z => m.is = true ∧ I64 m.st ∧ m.out.size ≤ 1000000 ∧ m.gen = gen ∧ Here d a (gen.toNat + 1) m.raw ∧ a + need m.raw.length ≤ d.s.length ∧ Laid d gen (a + need m.raw.length) ms z
theorem Laid.le {d : Dk} {gen : Int} : ∀ {ms : List Mk} {a z : Nat}, Laid d gen a ms z → a ≤ z ∧ a + ms.length ≤ z
  | [], a, z, h => by obtain rfl : a = z := h; simp
  | m :: ms, a, z, h => by
    obtain ⟨-, -, -, -, -, -, h7⟩ := h
    have := Laid.le h7
    simp only [List.length_cons]
    unfold need at this
    omega
theorem Laid.snoc {d : Dk} {gen : Int} : ∀ {ms : List Mk} {a z : Nat} {m : Mk}, Laid d gen a ms z → Laid d gen z [m] (z + need m.raw.length) → Laid d gen a (ms ++ [m]) (z + need m.raw.length)
  | [], a, z, m, h, k => by obtain rfl : a = z := h; exact k
  | x :: ms, a, z, m, h, k => by
    obtain ⟨h1, h2, h3, h4, h5, h6, h7⟩ := h
    exact ⟨h1, h2, h3, h4, h5, h6, Laid.snoc h7 k⟩
/-- They stay where nothing of theirs is turned. -/
theorem Laid.keep {d d' : Dk} {gen : Int} (hl : d'.s.length = d.s.length) : ∀ {ms : List Mk} {a z : Nat}, Laid d gen a ms z → (∀ k, a ≤ k → k < z → la d' k = la d k) → Laid d' gen a ms z
  | [], a, z, h, _ => h
  | m :: ms, a, z, h, hk => by
    obtain ⟨h1, h2, h3, h4, h5, h6, h7⟩ := h
    have hle := h7.le.1
    refine ⟨h1, h2, h3, h4, here_of h5 fun k k1 k2 => hk k k1 (by unfold need at hle; omega), by rw [hl]; exact h6, h7.keep hl fun k k1 k2 => hk k (by omega) k2⟩
/-- Where they end: the disk does, or a sector of noughts stands there. -/
def Stop (d : Dk) (z : Nat) : Prop := z = d.s.length ∨ la d z = zeroB
theorem Stop.none {d : Dk} {z : Nat} (h : Stop d z) (hz : z ≤ d.s.length) (gen : Int) : markAt d z gen = none := by
  rcases h with h | h
  · exact markAt_out d z gen (by omega)
  · by_cases hlt : z < d.s.length
    · exact markAt_none d z gen (get_zero d z _ hlt h)
    · exact markAt_out d z gen (by omega)
theorem Laid.fits {d : Dk} {gen : Int} : ∀ {ms : List Mk} {a z : Nat}, Laid d gen a ms z → a ≤ d.s.length → z ≤ d.s.length
  | [], a, z, h, ha => by obtain rfl : a = z := h; exact ha
  | m :: ms, a, z, h, _ => by
    obtain ⟨-, -, -, -, -, h6, h7⟩ := h
    exact h7.fits h6
theorem here_markAt {d : Dk} {a : Nat} {m : Mk} (h1 : m.is = true) (h2 : I64 m.st) (h3 : m.out.size ≤ 1000000) (h5 : Here d a (m.gen.toNat + 1) m.raw) (h6 : a + need m.raw.length ≤ d.s.length) : spanGet d a ((d.s.length : Int) - a) = some (m.gen.toNat + 1, m.raw) := by
  obtain ⟨g0, g1, n0, n1⟩ := is_gen h1
  have hr := (raw_len m ⟨by omega, by omega⟩ h2 h3).2
  exact get_here d a _ _ _ h5 (by omega) (by omega) (by omega) (by unfold need at h6; omega) (by omega)
/-- WHAT IS SCANNED of marks, and then. -/
theorem Laid.scan {d : Dk} {gen : Int} : ∀ {ms : List Mk} {a z : Nat} (f : Nat), Laid d gen a ms z → scanFrom d gen (ms.length + f) a = (ms ++ (scanFrom d gen f z).1, (scanFrom d gen f z).2)
  | [], a, z, f, h => by
    obtain rfl : a = z := h
    simp
  | m :: ms, a, z, f, h => by
    obtain ⟨h1, h2, h3, rfl, h5, h6, h7⟩ := h
    rw [List.length_cons, show ms.length + 1 + f = (ms.length + f) + 1 by omega]
    simp only [scanFrom]
    rw [markAt_some d a m h1 h2 h3 (here_markAt h1 h2 h3 h5 h6)]
    simp only
    rw [Laid.scan f h7]
    rfl
theorem scan_stop {d : Dk} {gen : Int} {z : Nat} (hs : markAt d z gen = none) (f : Nat) : scanFrom d gen f z = ([], z) := by
  cases f with
  | zero => rfl
  | succ f => simp only [scanFrom]; rw [hs]
theorem Laid.all {d : Dk} {gen : Int} {ms : List Mk} {z : Nat} (h : Laid d gen (2 * room d) ms z) (hs : markAt d z gen = none) (hg : isGenB gen = true) : markScan d gen = (ms, z) := by
  have hr : 2 * room d ≤ d.s.length := by unfold room; omega
  have h1 := h.le
  have h2 := h.fits hr
  have h3 := h.scan (d.s.length + 1 - ms.length)
  rw [scan_stop hs, List.append_nil, show ms.length + (d.s.length + 1 - ms.length) = d.s.length + 1 by omega] at h3
  unfold markScan
  rw [if_pos hg]
  exact h3
/-- .. and one more behind them. -/
theorem Laid.more {d : Dk} {gen : Int} {ms : List Mk} {z k : Nat} {m : Mk} (h : Laid d gen (2 * room d) ms z) (hm : markAt d z gen = some (m, k)) (hs : markAt d (z + k : Nat) gen = none) (hg : isGenB gen = true) : markScan d gen = (ms ++ [m], z + k) := by
  have hr : 2 * room d ≤ d.s.length := by unfold room; omega
  have h1 := h.le
  have h2 := markAt_fits hm
  have e : scanFrom d gen (d.s.length - ms.length + 1) z = ([m], z + k) := by
    simp only [scanFrom]
    rw [hm]
    simp only
    rw [scan_stop hs]
  have h3 := h.scan (d.s.length - ms.length + 1)
  rw [e, show ms.length + (d.s.length - ms.length + 1) = d.s.length + 1 by omega] at h3
  unfold markScan
  rw [if_pos hg]
  exact h3
/-- Of another generation nothing. -/
theorem Laid.other {d : Dk} {gen : Int} {m : Mk} {ms : List Mk} {a z : Nat} (h : Laid d gen a (m :: ms) z) (g : Int) (hg : g ≠ gen) : markAt d a g = none := by
  obtain ⟨h1, h2, h3, rfl, h5, h6, h7⟩ := h
  obtain ⟨g0, -⟩ := is_gen h1
  exact markAt_other d a g _ _ (here_markAt h1 h2 h3 h5 h6) (by omega)
theorem scan_none {d : Dk} {g : Int} (h : markAt d (2 * room d : Nat) g = none) : markScan d g = ([], 2 * room d) := by
  unfold markScan
  split
  · simp only [scanFrom]
    rw [h]
  · rfl

/-! ### Append, on a disk that goes on and is not armed -/
def cleared (d : Dk) (z : Nat) : Dk := if z = d.s.length then d else (d.put z zeroB).flushed
theorem cleared_len (d : Dk) (z : Nat) : (cleared d z).s.length = d.s.length := by
  unfold cleared
  split
  · rfl
  · rw [flushed_len, put_len]
theorem cleared_la (d : Dk) (z : Nat) (hz : z ≤ d.s.length) (k : Nat) (hk : k < d.s.length) : la (cleared d z) k = if k = z then zeroB else la d k := by
  unfold cleared
  by_cases h : z = d.s.length
  · rw [if_pos h, if_neg (by omega)]
  · rw [if_neg h, flushed_la, put_la _ _ _ _ (by omega)]
theorem cleared_down (d : Dk) (z : Nat) : (cleared d z).down = d.down := by unfold cleared; split <;> rfl
theorem cleared_armed (d : Dk) (z : Nat) : (cleared d z).armed = d.armed := by unfold cleared; split <;> rfl
theorem cleared_p (d : Dk) (z : Nat) (h : d.p = []) : (cleared d z).p = [] := by
  unfold cleared
  split
  · exact h
  · rfl
theorem cleared_n (d : Dk) (z : Nat) : (cleared d z).n ≤ d.n + 2 := by
  unfold cleared
  split
  · omega
  · show d.n + 1 + 1 ≤ _; omega
def appended (d : Dk) (a : Nat) (m : Mk) : Dk := done (cleared d (a + need m.raw.length)) a (m.gen.toNat + 1) m.raw
theorem appended_len (d : Dk) (a : Nat) (m : Mk) : (appended d a m).s.length = d.s.length := by unfold appended; rw [done_len, cleared_len]
theorem appended_room (d : Dk) (a : Nat) (m : Mk) : room (appended d a m) = room d := by unfold room; rw [appended_len]
theorem appended_down (d : Dk) (a : Nat) (m : Mk) : (appended d a m).down = d.down := by unfold appended; rw [done_down, cleared_down]
theorem appended_armed (d : Dk) (a : Nat) (m : Mk) : (appended d a m).armed = d.armed := by unfold appended; rw [done_armed, cleared_armed]
theorem appended_p (d : Dk) (a : Nat) (m : Mk) : (appended d a m).p = [] := rfl
theorem appended_n (d : Dk) (a : Nat) (m : Mk) : (appended d a m).n ≤ d.n + m.raw.length + 5 := by
  unfold appended
  rw [done_n]
  have := cleared_n d (a + need m.raw.length)
  have := cnt_self m.raw.length
  omega
theorem append_well (d : Dk) (a : Nat) (m : Mk) (hd : d.down = false) (ha : d.armed = false) (hm : m.is = true) (h0 : 2 * room d ≤ a) (h1 : a + need m.raw.length ≤ d.s.length) :
    markAppend d a m = (((a + need m.raw.length : Nat) : Int), 0, appended d a m) := by
  have hn : need m.raw.length = 1 + cnt m.raw.length := rfl
  unfold markAppend jFrom
  rw [hm, if_neg (by simp; omega), if_neg (by omega)]
  by_cases hz : d.s.length = a + need m.raw.length
  · rw [if_pos (by omega), put_well d a _ _ _ hd ha (by omega) (by omega), if_neg (by simp)]
    unfold appended cleared
    rw [if_pos hz.symm]
    rfl
  · rw [if_neg (by omega), show (a : Int) + (need m.raw.length : Int) = ((a + need m.raw.length : Nat) : Int) by omega, clear_well d _ hd ha (by omega), if_neg (by simp)]
    dsimp only
    rw [put_well (d.put (a + need m.raw.length) zeroB).flushed a ((d.s.length : Int) - a) (m.gen.toNat + 1) m.raw hd ha (by omega) (by rw [flushed_len, put_len]; omega), if_neg (by simp)]
    unfold appended cleared
    rw [if_neg (fun e => hz e.symm)]
theorem append_full (d : Dk) (a : Nat) (m : Mk) (hm : m.is = true) (h0 : 2 * room d ≤ a) (h1 : a < d.s.length) (h2 : d.s.length < a + need m.raw.length) : markAppend d a m = (0, 4, d) := by
  unfold markAppend jFrom
  rw [hm, if_neg (by simp; omega), if_pos (by omega)]
theorem append_out (d : Dk) (at_ : Int) (m : Mk) (h : m.is = false ∨ at_ < jFrom d ∨ (d.s.length : Int) ≤ at_) : markAppend d at_ m = (0, 1, d) := by
  unfold markAppend
  rw [if_pos h]
theorem appended_la (d : Dk) (a : Nat) (m : Mk) (h1 : a + need m.raw.length ≤ d.s.length) (k : Nat) (hk : k < d.s.length) (hf : k < a ∨ a + need m.raw.length ≤ k) : la (appended d a m) k = if k = a + need m.raw.length then zeroB else la d k := by
  have hn : need m.raw.length = 1 + cnt m.raw.length := rfl
  unfold appended
  rw [done_la _ _ _ _ _ (by rw [cleared_len]; omega), if_neg (by omega), if_neg (by omega), cleared_la _ _ h1 _ hk]
/-- A MARK BEHIND OTHERS: they are there, and it; behind it nothing. -/
theorem Laid.append {d : Dk} {gen : Int} {ms : List Mk} {a z : Nat} (h : Laid d gen a ms z) (m : Mk) (hm : m.is = true) (hs : I64 m.st) (ho : m.out.size ≤ 1000000) (hg : m.gen = gen) (h1 : z + need m.raw.length ≤ d.s.length) :
    Laid (appended d z m) gen a (ms ++ [m]) (z + need m.raw.length) ∧ Stop (appended d z m) (z + need m.raw.length) := by
  have hn : need m.raw.length = 1 + cnt m.raw.length := rfl
  subst hg
  refine ⟨Laid.snoc (h.keep (appended_len d z m) fun k k1 k2 => ?_) ⟨hm, hs, ho, rfl, done_here _ _ _ _ (by rw [cleared_len]; omega), by rw [appended_len]; exact h1, rfl⟩, ?_⟩
  · rw [appended_la d z m h1 k (by omega) (.inl k2), if_neg (by omega)]
  · by_cases hz : z + need m.raw.length = d.s.length
    · exact .inl (by rw [appended_len]; exact hz)
    · exact .inr (by rw [appended_la d z m h1 _ (by omega) (.inr (Nat.le_refl _)), if_pos rfl])
theorem wf_appended {d : Dk} (h : Wf d) (a : Nat) (m : Mk) (hd : d.down = false) (ha : d.armed = false) (h1 : a + need m.raw.length ≤ d.s.length) : Wf (appended d a m) := by
  have hn : need m.raw.length = 1 + cnt m.raw.length := rfl
  have hc : Wf (cleared d (a + need m.raw.length)) := by
    unfold cleared
    split
    · exact h
    · have := wf_spanClear h (a + need m.raw.length : Nat)
      rw [clear_well d _ hd ha (by omega)] at this
      exact this
  have := wf_spanPut hc (a : Nat) ((d.s.length : Int) - a) (m.gen.toNat + 1) m.raw
  rw [put_well _ a _ _ _ (by rw [cleared_down]; exact hd) (by rw [cleared_armed]; exact ha) (by omega) (by rw [cleared_len]; omega)] at this
  exact this

/-! ### Append, where it may crash -/
theorem torn_get {d : Dk} {at_ : Nat} {room : Int} {t : Nat} {b : List UInt8} (ht : t < 4294967296) (hb : b.length < 4294967296) (hl : at_ + cnt b.length < d.s.length) {k : Nat} (hk : k ≤ 16)
    (h : la d at_ = (headB t b).take k ++ zeroB.drop k) (hr : ∀ k, k < cnt b.length → la d (at_ + 1 + k) = chunk b k) : spanGet d at_ room = none ∨ spanGet d at_ room = some (t, b) := by
  cases hg : spanGet d at_ room with
  | none => exact .inl rfl
  | some x =>
    right
    obtain ⟨t', c⟩ := x
    obtain ⟨g1, g2, g3⟩ := get_tag d _ _ _ _ hg
    have g4 := get_bytes d _ _ _ _ hg
    have hread : d.read (at_ : Int) = (headB t b).take k ++ (headB 0 []).drop k := by rw [read_la d at_ (by omega), h]; rfl
    rw [hread] at g1 g3 g4
    have hA := headB_length t b
    by_cases h12 : k ≤ 12
    · exfalso
      have e : ((headB t b).take k ++ (headB 0 []).drop k).drop 12 = (headB 0 []).drop 12 := by
        rw [List.drop_append, List.drop_of_length_le (by rw [List.length_take]; omega), List.nil_append, List.drop_drop, List.length_take]
        congr 1; omega
      rw [e, head_again 0 (by omega)] at g3
      exact g2 g3.symm
    · have e1 : getB ((headB t b).take k ++ (headB 0 []).drop k) = t := by
        have hZ := headB_length 0 []
        refine (getB_take _ (headB t b) ?_ ?_ ?_).trans (head_tag t ht b)
        · rw [List.take_append_of_le_length (by rw [List.length_take]; omega), List.take_take, Nat.min_eq_left (by omega)]
        · rw [List.length_append, List.length_take, List.length_drop]; omega
        · omega
      rcases torn_head 0 t [] b (by omega) hb k hk with h1 | h1
      · exact absurd (h1.symm.trans g3).symm g2
      · rw [h1, gather_all d at_ b hl hr] at g4
        rw [g4, ← g1, e1]
theorem write_5 (d : Dk) (i : Int) (b : List UInt8) (h : (d.write i b).1 = 5) : (d.write i b).2.down = true := by
  unfold Dk.write at h ⊢
  split at h
  · rename_i hd; rw [if_pos hd]; exact hd
  · rename_i hd
    rw [if_neg hd]
    split at h
    · simp at h
    · rename_i hl
      rw [if_neg hl]
      split at h
      · simp at h
      · rename_i hi
        rw [if_neg hi]
        split at h
        · rename_i hh; rw [if_pos hh]; rfl
        · simp at h
theorem flush_5 (d : Dk) (h : d.flush.1 = 5) : d.flush.2.down = true := by
  unfold Dk.flush at h ⊢
  split at h
  · rename_i hd; rw [if_pos hd]; exact hd
  · rename_i hd
    rw [if_neg hd]
    split at h
    · rename_i hh; rw [if_pos hh]; rfl
    · simp at h
theorem putHead_5 (d : Dk) (at_ : Int) (b : List UInt8) (h : (putHead d at_ b).1 = 5) : (putHead d at_ b).2.down = true := by
  unfold putHead at h ⊢
  split at h
  · rename_i h0; rw [if_pos h0]; exact flush_5 _ h
  · rename_i h0; rw [if_neg h0]; exact write_5 _ _ _ h
theorem putRows_5 : ∀ (rs : List (List UInt8)) (at_ : Int) (d : Dk), (putRows at_ rs d).1 = 5 → (putRows at_ rs d).2.down = true
  | [], _, _, h => by simp [putRows] at h
  | r :: rs, at_, d, h => by
    unfold putRows at h ⊢
    split at h
    · rename_i h0; rw [if_pos h0]; exact putRows_5 rs _ _ h
    · rename_i h0; rw [if_neg h0]; exact write_5 _ _ _ h
theorem spanPut_5 (d : Dk) (at_ room : Int) (t : Nat) (b : List UInt8) (h : (spanPut d at_ room t b).1 = 5) : (spanPut d at_ room t b).2.down = true := by
  unfold spanPut at h ⊢
  split at h
  · simp at h
  · rename_i h0
    rw [if_neg h0]
    split at h
    · rename_i h1; rw [if_pos h1]; exact putRows_5 _ _ _ h
    · rename_i h1
      rw [if_neg h1]
      split at h
      · rename_i h2; rw [if_pos h2]; exact flush_5 _ h
      · rename_i h2; rw [if_neg h2]; exact putHead_5 _ _ _ h

/-- THE LAST ONE, WHICH MAY CRASH: behind a restart it is scanned with all ahead of it, or all ahead of it. -/
theorem append_crash {d0 d : Dk} {gen : Int} {ms : List Mk} {z : Nat} (h : Laid d0 gen (2 * room d0) ms z) (hz : la d0 z = zeroB) (m : Mk) (hm : m.is = true) (hst : I64 m.st) (ho : m.out.size ≤ 1000000) (hg : m.gen = gen)
    (h1 : z + need m.raw.length ≤ d0.s.length) (hw : Wf d0) (hp : d0.p = []) (hdn : d0.down = false) (hd : ∃ at_ l, d = d0.arm at_ l) :
    ∃ nx e d1, markAppend d z m = (nx, e, d1) ∧ (e = 0 ∨ e = 5 ∧ d1.down = true) ∧
      (markScan d1.restart gen = (ms ++ [m], z + need m.raw.length) ∨ d1.down = true ∧ markScan d1.restart gen = (ms, z)) ∧
      ∀ g, g ≠ gen → markScan d1.restart g = ([], 2 * room d0) := by
  obtain ⟨at0, l0, rfl⟩ := hd
  subst hg
  have hcn : need m.raw.length = 1 + cnt m.raw.length := rfl
  obtain ⟨g0, g1, n0, n1⟩ := is_gen hm
  have hrl := (raw_len m ⟨by omega, by omega⟩ hst ho).2
  have hgb : isGenB m.gen = true := by simp [isGenB]; omega
  have hle := h.le.1
  have hwf : Wf (d0.arm at0 l0) := wf_arm hw _ _
  have hla : ∀ k, la (d0.arm at0 l0) k = la d0 k := fun k => rfl
  have hlen : (d0.arm at0 l0).s.length = d0.s.length := rfl
  have hroom : room (d0.arm at0 l0) = room d0 := rfl
  have hdn' : (d0.arm at0 l0).down = false := hdn
  have hp' : (d0.arm at0 l0).p = [] := hp
  generalize d0.arm at0 l0 = d at hwf hla hlen hroom hdn' hp' ⊢
  -- what the next disk is, by what it reads
  have base : ∀ d1 : Dk, d1.p = [] → d1.s.length = d0.s.length → (∀ k, k < z → la d1 k = la d0 k) → d1.restart.s.length = d0.s.length ∧ room d1.restart = room d0 ∧ (∀ k, la d1.restart k = la d1 k) ∧ Laid d1.restart m.gen (2 * room d1.restart) ms z := fun d1 p1 l1 o1 => by
    have r1 : d1.restart.s.length = d0.s.length := by rw [restart_len, l1]
    have r2 : room d1.restart = room d0 := by unfold room; rw [r1]
    have r3 : ∀ k, la d1.restart k = la d1 k := restart_la' d1 p1
    refine ⟨r1, r2, r3, ?_⟩
    rw [r2]
    exact h.keep r1 fun k _ k2 => (r3 k).trans (o1 k k2)
  have oth : ∀ x : Dk, room x = room d0 → Laid x m.gen (2 * room x) ms z → (∀ g, g ≠ m.gen → markAt x z g = none) → ∀ g, g ≠ m.gen → markScan x g = ([], 2 * room d0) := fun x r2 hb f1 g hg => by
    rw [← r2]
    refine scan_none ?_
    cases ms with
    | nil => obtain rfl : 2 * room x = z := hb; exact f1 g hg
    | cons y ys => exact hb.other g hg
  have stay : ∀ d1 : Dk, d1.p = [] → d1.s.length = d0.s.length → (∀ k, k < z → la d1 k = la d0 k) → spanGet d1.restart z ((d1.restart.s.length : Int) - z) = none →
      markScan d1.restart m.gen = (ms, z) ∧ ∀ g, g ≠ m.gen → markScan d1.restart g = ([], 2 * room d0) := fun d1 p1 l1 o1 f1 => by
    obtain ⟨r1, r2, r3, hb⟩ := base d1 p1 l1 o1
    exact ⟨hb.all (markAt_none _ _ _ f1) hgb, oth _ r2 hb fun g _ => markAt_none _ _ _ f1⟩
  have next : ∀ d1 : Dk, d1.p = [] → d1.s.length = d0.s.length → (∀ k, k < z → la d1 k = la d0 k) → spanGet d1.restart z ((d1.restart.s.length : Int) - z) = some (m.gen.toNat + 1, m.raw) → (z + need m.raw.length = d0.s.length ∨ la d1 (z + need m.raw.length) = zeroB) →
      markScan d1.restart m.gen = (ms ++ [m], z + need m.raw.length) ∧ ∀ g, g ≠ m.gen → markScan d1.restart g = ([], 2 * room d0) := fun d1 p1 l1 o1 f1 f2 => by
    obtain ⟨r1, r2, r3, hb⟩ := base d1 p1 l1 o1
    have hs : Stop d1.restart (z + need m.raw.length) := f2.imp (fun e => by rw [r1]; exact e) fun e => (r3 _).trans e
    exact ⟨hb.more (markAt_some _ _ m hm hst ho f1) (hs.none (by rw [r1]; exact h1) _) hgb, oth _ r2 hb fun g hg => markAt_other _ _ _ _ _ f1 (by omega)⟩
  have putting : ∀ dd : Dk, Wf dd → dd.p = [] → dd.down = false → dd.s.length = d0.s.length → (∀ k, k ≤ z → la dd k = la d0 k) → (z + need m.raw.length = d0.s.length ∨ la dd (z + need m.raw.length) = zeroB) →
      ∃ e d1, spanPut dd z ((d0.s.length : Int) - z) (m.gen.toNat + 1) m.raw = (e, d1) ∧ (e = 0 ∨ e = 5 ∧ d1.down = true) ∧
      (markScan d1.restart m.gen = (ms ++ [m], z + need m.raw.length) ∨ d1.down = true ∧ markScan d1.restart m.gen = (ms, z)) ∧ ∀ g, g ≠ m.gen → markScan d1.restart g = ([], 2 * room d0) := fun dd w1 p1 n1 l1 o1 f1 => by
    have hll := spanPut_len dd z ((d0.s.length : Int) - z) (m.gen.toNat + 1) m.raw
    rcases put_crash dd z ((d0.s.length : Int) - z) (m.gen.toNat + 1) m.raw n1 p1 (by omega) (by omega) ((o1 z (Nat.le_refl _)).trans hz) w1 with hq | ⟨d3, hq, p3, o3, t3⟩
    · rw [hq] at hll
      obtain ⟨n1, n2⟩ := next (done dd z (m.gen.toNat + 1) m.raw) rfl (hll.trans l1) (fun k hk => by rw [done_la _ _ _ _ _ (by omega), if_neg (by omega), if_neg (by omega), o1 k (by omega)])
        (here_markAt hm hst ho (here_of (done_here dd z _ _ (by omega)) fun k _ _ => restart_la' _ rfl k) (by rw [restart_len, hll, l1]; exact h1))
        (f1.imp id fun e => by rw [done_la _ _ _ _ _ (by omega), if_neg (by omega), if_neg (by omega), e])
      exact ⟨0, _, hq, .inl rfl, .inl n1, n2⟩
    · have h5 := spanPut_5 dd z ((d0.s.length : Int) - z) (m.gen.toNat + 1) m.raw (by rw [hq])
      rw [hq] at hll h5
      have l3 : d3.s.length = d0.s.length := hll.trans l1
      have o4 : ∀ k, k < z → la d3 k = la d0 k := fun k hk => by rw [o3 k (.inl hk), o1 k (by omega)]
      have f3 : z + need m.raw.length = d0.s.length ∨ la d3 (z + need m.raw.length) = zeroB := f1.imp id fun e => by rw [o3 _ (.inr (by omega)), e]
      refine ⟨5, d3, hq, .inr ⟨rfl, h5⟩, ?_⟩
      have hzl : z < d3.restart.s.length := by rw [restart_len]; omega
      rcases t3 with t3 | ⟨⟨k, hk, t3⟩, t4⟩
      · obtain ⟨s1, s2⟩ := stay d3 p3 l3 o4 (get_zero _ z _ hzl ((restart_la' d3 p3 z).trans t3))
        exact ⟨.inr ⟨h5, s1⟩, s2⟩
      · rcases torn_get (d := d3.restart) (room := (d3.restart.s.length : Int) - z) (show m.gen.toNat + 1 < 4294967296 by omega) (show m.raw.length < 4294967296 by omega) (by rw [restart_len]; omega) hk ((restart_la' d3 p3 z).trans t3) (fun i hi => (restart_la' d3 p3 _).trans (t4 i hi)) with h6 | h6
        · obtain ⟨s1, s2⟩ := stay d3 p3 l3 o4 h6
          exact ⟨.inr ⟨h5, s1⟩, s2⟩
        · obtain ⟨s1, s2⟩ := next d3 p3 l3 o4 h6 f3
          exact ⟨.inl s1, s2⟩
  have app : ∀ (x : Int × Dk) (nx : Int), (∃ e d1, x = (e, d1) ∧ (e = 0 ∨ e = 5 ∧ d1.down = true) ∧
      (markScan d1.restart m.gen = (ms ++ [m], z + need m.raw.length) ∨ d1.down = true ∧ markScan d1.restart m.gen = (ms, z)) ∧ ∀ g, g ≠ m.gen → markScan d1.restart g = ([], 2 * room d0)) →
      ∃ nx' e d1, (if x.1 ≠ 0 then ((0 : Int), x) else (nx, x)) = (nx', e, d1) ∧ (e = 0 ∨ e = 5 ∧ d1.down = true) ∧
      (markScan d1.restart m.gen = (ms ++ [m], z + need m.raw.length) ∨ d1.down = true ∧ markScan d1.restart m.gen = (ms, z)) ∧ ∀ g, g ≠ m.gen → markScan d1.restart g = ([], 2 * room d0) := fun x nx ⟨e, d1, hx, r⟩ => by
    subst hx
    by_cases he : e = 0
    · exact ⟨nx, e, d1, by rw [if_neg (by simp [he])], r⟩
    · exact ⟨0, e, d1, by rw [if_pos (by simpa using he)], r⟩
  have hj : jFrom d = 2 * (room d0 : Int) := by unfold jFrom; rw [hroom]
  unfold markAppend
  rw [hm, hj, hlen, if_neg (by simp; omega), if_neg (by omega)]
  by_cases hz2 : d0.s.length = z + need m.raw.length
  · rw [if_pos (by omega)]
    exact app _ _ (putting d hwf hp' hdn' hlen (fun k _ => hla k) (.inl hz2.symm))
  · rw [if_neg (by omega), show (z : Int) + (need m.raw.length : Int) = ((z + need m.raw.length : Nat) : Int) by omega]
    rcases clear_cases d (z + need m.raw.length) hdn' hp' (by omega) hwf with hc | ⟨d', hc, p1, o1, -⟩
    · have w2 := wf_spanClear hwf (z + need m.raw.length : Nat)
      rw [hc] at w2 ⊢
      rw [if_neg (by simp)]
      refine app _ _ (putting _ w2 rfl hdn' (by rw [flushed_len, put_len, hlen]) (fun k hk => ?_) (.inr ?_))
      · rw [flushed_la, put_la _ _ _ _ (by omega), if_neg (by omega), hla]
      · rw [flushed_la, put_la _ _ _ _ (by omega), if_pos rfl]
    · have h5 := putHead_5 d (z + need m.raw.length : Nat) zeroB (show (spanClear d (z + need m.raw.length : Nat)).1 = 5 by rw [hc])
      have l1 := spanClear_len d (z + need m.raw.length : Nat)
      have h5' : d'.down = true := by
        have : (spanClear d (z + need m.raw.length : Nat)).2.down = true := h5
        rw [hc] at this; exact this
      rw [hc] at l1 ⊢
      have l2 : d'.s.length = d0.s.length := l1.trans hlen
      rw [if_pos (by simp)]
      obtain ⟨s1, s2⟩ := stay d' p1 l2 (fun k hk => by rw [o1 k (by omega), hla]) (get_zero _ z _ (by rw [restart_len]; omega) ((restart_la' d' p1 z).trans (by rw [o1 z (by omega), hla, hz])))
      exact ⟨0, 5, d', rfl, .inr ⟨rfl, h5'⟩, .inr ⟨h5', s1⟩, s2⟩
end Go.Proofs.YtilplpjdbkipoaaGreatDoor.MarkMath
