/-
  Proved: plain facts on two slots over a disk's model: what Save, Load make of it; if generations rise by one, what is loaded behind a crash is the last one that was well, or the one after it. Conditions: as each says.
-/
import Derived.Test.YtilplpjdbkipoaaGreatDoorDiskWf
namespace Go.Proofs.YtilplpjdbkipoaaGreatDoor.SpanMath
open Go DiskMath SumMath

/-! ### The slots -/
def room (d : Dk) : Nat := d.s.length * 3 / 8
def slotSave (d : Dk) (gen : Int) (b : List UInt8) : Int × Dk :=
  if gen < 1 ∨ 2147483647 < gen then (1, d)
  else if room d < need b.length then (4, d)
  else if (spanClear d (gen % 2 * (room d : Int))).1 ≠ 0 then spanClear d (gen % 2 * (room d : Int))
  else spanPut (spanClear d (gen % 2 * (room d : Int))).2 (gen % 2 * (room d : Int)) (room d : Int) gen.toNat b
/-- What was loaded so far, and what the next slot has. -/
def genOf (o : Option (Nat × List UInt8)) : Nat := (o.map Prod.fst).getD 0
def bytesOf (o : Option (Nat × List UInt8)) : List UInt8 := (o.map Prod.snd).getD []
def better (o x : Option (Nat × List UInt8)) : Option (Nat × List UInt8) :=
  match x with
  | some (t, b) => if t ≤ 2147483647 ∧ genOf o < t then some (t, b) else o
  | none => o
def slotLoad (d : Dk) : Option (Nat × List UInt8) := better (better none (spanGet d 0 (room d : Int))) (spanGet d (room d : Int) (room d : Int))

theorem genOf_lt {o x : Option (Nat × List UInt8)} (h : genOf o ≤ 2147483647) : genOf (better o x) ≤ 2147483647 := by
  unfold better
  split
  · split
    · rename_i h1; exact h1.1
    · exact h
  · exact h
theorem slotLoad_lt (d : Dk) : genOf (slotLoad d) ≤ 2147483647 := genOf_lt (genOf_lt (by simp [genOf]))
theorem wf_slotSave {d : Dk} (h : Wf d) (gen : Int) (b : List UInt8) : Wf (slotSave d gen b).2 := by
  unfold slotSave
  split
  · exact h
  · split
    · exact h
    · split
      · exact wf_spanClear h _
      · exact wf_spanPut (wf_spanClear h _) _ _ _ _
theorem slotSave_len (d : Dk) (gen : Int) (b : List UInt8) : (slotSave d gen b).2.s.length = d.s.length := by
  unfold slotSave
  split
  · rfl
  · split
    · rfl
    · split
      · exact spanClear_len _ _
      · rw [spanPut_len, spanClear_len]
theorem slotSave_n (d : Dk) (gen : Int) (b : List UInt8) : (slotSave d gen b).2.n ≤ d.n + cnt b.length + 5 ∧ (slotSave d gen b).2.p.length ≤ d.p.length + cnt b.length + 2 := by
  have h1 := spanClear_n d (gen % 2 * (room d : Int))
  have h2 := spanPut_n (spanClear d (gen % 2 * (room d : Int))).2 (gen % 2 * (room d : Int)) (room d : Int) gen.toNat b
  unfold slotSave
  split
  · exact ⟨by show d.n ≤ _; omega, by show d.p.length ≤ _; omega⟩
  · split
    · exact ⟨by show d.n ≤ _; omega, by show d.p.length ≤ _; omega⟩
    · split <;> omega

/-! ### A head that is none -/
/-- Its first four bytes, or its last four, are 0. -/
def Dead (h : List UInt8) : Prop := (∀ i, i < 4 → h[i]? = some 0) ∨ ∀ i, 12 ≤ i → i < 16 → h[i]? = some 0
theorem getB_zero {l : List UInt8} (h : ∀ i, i < 4 → l[i]? = some 0) : getB l = 0 := by
  match l with
  | a :: b :: c :: e :: r =>
    have h0 := h 0 (by omega)
    have h1 := h 1 (by omega)
    have h2 := h 2 (by omega)
    have h3 := h 3 (by omega)
    simp only [List.getElem?_cons_zero, List.getElem?_cons_succ, Option.some.injEq] at h0 h1 h2 h3
    subst h0 h1 h2 h3
    rfl
  | [] => rfl
  | [_] => rfl
  | [_, _] => rfl
  | [_, _, _] => rfl
theorem zero_at (i : Nat) (h : i < 16) : zeroB[i]? = some 0 := by unfold zeroB; rw [List.getElem?_replicate, if_pos h]
theorem dead_zero : Dead zeroB := .inl fun i h => zero_at i (by omega)
theorem torn_at {A : List UInt8} (H : List UInt8) {k : Nat} (hA : A.length = 16) (hk : k ≤ 16) (i : Nat) : (A.take k ++ H.drop k)[i]? = if i < k then A[i]? else H[i]? := by
  by_cases h : i < k
  · rw [if_pos h, List.getElem?_append_left (by rw [List.length_take]; omega), List.getElem?_take, if_pos h]
  · rw [if_neg h, List.getElem?_append_right (by rw [List.length_take]; omega), List.length_take, List.getElem?_drop]
    congr 1; omega
theorem dead_torn {H : List UInt8} (h : Dead H) {k : Nat} (hk : k ≤ 16) : Dead (zeroB.take k ++ H.drop k) := by
  rcases h with h | h
  · refine .inl fun i hi => ?_
    rw [torn_at H rfl hk]
    split
    · exact zero_at i (by omega)
    · exact h i hi
  · refine .inr fun i h1 h2 => ?_
    rw [torn_at H rfl hk]
    split
    · exact zero_at i (by omega)
    · exact h i h1 h2
theorem head_at (T : Nat) (b : List UInt8) (hT : T < 256) (i : Nat) : (i < 3 → (headB T b)[i]? = some 0) ∧ (12 ≤ i → i < 15 → (headB T b)[i]? = some 0) := by
  have e1 : (headB T b)[0]? = some (UInt8.ofNat (T / 16777216)) := rfl
  have e2 : (headB T b)[1]? = some (UInt8.ofNat (T / 65536)) := rfl
  have e3 : (headB T b)[2]? = some (UInt8.ofNat (T / 256)) := rfl
  have e4 : (headB T b)[12]? = some (UInt8.ofNat (T / 16777216)) := rfl
  have e5 : (headB T b)[13]? = some (UInt8.ofNat (T / 65536)) := rfl
  have e6 : (headB T b)[14]? = some (UInt8.ofNat (T / 256)) := rfl
  rw [show T / 16777216 = 0 by omega] at e1 e4
  rw [show T / 65536 = 0 by omega] at e2 e5
  rw [show T / 256 = 0 by omega] at e3 e6
  refine ⟨fun h => ?_, fun h1 h2 => ?_⟩
  · obtain rfl | rfl | rfl : i = 0 ∨ i = 1 ∨ i = 2 := by omega
    · exact e1
    · exact e2
    · exact e3
  · obtain rfl | rfl | rfl : i = 12 ∨ i = 13 ∨ i = 14 := by omega
    · exact e4
    · exact e5
    · exact e6
/-- A head that a clear tears: it is as it was, or none. -/
theorem elder_torn (T : Nat) (b : List UInt8) (hT : T < 256) {k : Nat} (hk : k ≤ 16) : zeroB.take k ++ (headB T b).drop k = headB T b ∨ Dead (zeroB.take k ++ (headB T b).drop k) := by
  by_cases h : k ≤ 3
  · left
    apply List.ext_getElem?
    intro i
    rw [torn_at _ rfl hk]
    split
    · rw [zero_at i (by omega), (head_at T b hT i).1 (by omega)]
    · rfl
  · right
    refine .inl fun i hi => ?_
    rw [torn_at _ rfl hk, if_pos (by omega), zero_at i (by omega)]
/-- A head that is torn over noughts: it is there whole, or none. -/
theorem new_torn (T : Nat) (b : List UInt8) (hT : T < 256) {k : Nat} (hk : k ≤ 16) : (headB T b).take k ++ zeroB.drop k = headB T b ∨ Dead ((headB T b).take k ++ zeroB.drop k) := by
  by_cases h : k = 16
  · left
    subst h
    rw [List.take_of_length_le (by rw [headB_length]; omega), List.drop_of_length_le (by simp [zeroB]), List.append_nil]
  · right
    refine .inr fun i h1 h2 => ?_
    rw [torn_at _ (headB_length T b) hk]
    split
    · exact (head_at T b hT i).2 h1 (by omega)
    · exact zero_at i h2
theorem get_dead (d : Dk) (at_ : Nat) (room : Int) (hl : at_ < d.s.length) (h : Dead (la d at_)) : spanGet d at_ room = none := by
  have hread : d.read (at_ : Int) = la d at_ := read_la d at_ hl
  unfold spanGet
  split
  · rfl
  · rw [hread, if_pos]
    rcases h with h | h
    · exact .inl (getB_zero h)
    · have h0 : getB ((la d at_).drop 12) = 0 := getB_zero fun i hi => by
        rw [List.getElem?_drop]
        exact h (12 + i) (by omega) (by omega)
      rw [h0]
      by_cases e : getB (la d at_) = 0
      · exact .inl e
      · exact .inr e

/-! ### Where it crashes within Clear, within Put -/
theorem puts_p : ∀ (rs : List (List UInt8)) (at_ : Nat) (d : Dk), ∀ x ∈ (puts at_ rs d).p, x ∈ d.p ∨ at_ < x.1 ∧ x.1 ≤ at_ + rs.length
  | [], _, _, x, hx => .inl hx
  | r :: rs, at_, d, x, hx => by
    rw [List.length_cons]
    rcases puts_p rs (at_ + 1) (d.put (at_ + 1) r) x hx with h | h
    · simp only [Dk.put, List.mem_append, List.mem_singleton] at h
      rcases h with h | rfl
      · exact .inl h
      · exact .inr ⟨by simp, by simp only; omega⟩
    · exact .inr ⟨by omega, by omega⟩
theorem restart_la' (d : Dk) (h : d.p = []) (k : Nat) : la d.restart k = la d k := la_of (by rw [restart_s d h])

/-- Clear: it is well, or nothing but the head is another. -/
theorem clear_cases (d : Dk) (at_ : Nat) (hd : d.down = false) (hp : d.p = []) (hl : at_ < d.s.length) (hw : Wf d) :
    spanClear d at_ = (0, (d.put at_ zeroB).flushed) ∨ ∃ d', spanClear d at_ = (5, d') ∧ d'.p = [] ∧ (∀ k, k ≠ at_ → la d' k = la d k) ∧ ∃ k, k ≤ 16 ∧ la d' at_ = zeroB.take k ++ (la d at_).drop k := by
  have hcalm : fl d at_ = la d at_ := (wf_calm hw hl (by rw [hp]; intro y hy; cases hy)).symm
  unfold spanClear putHead
  rcases write_cases d at_ zeroB hd hl (by decide) with h | ⟨-, h⟩
  · rw [h, if_pos rfl]
    rcases flush_cases (d.put at_ zeroB) hd with h | ⟨-, h⟩
    · exact .inl h
    · right
      have hpp : (d.put at_ zeroB).p = [(at_, zeroB)] := by simp [Dk.put, hp]
      obtain ⟨k, hk, hto⟩ := crashed_one (d.put at_ zeroB) at_ zeroB hpp (by rw [put_len]; exact hl)
      refine ⟨_, h, rfl, fun k hk => ?_, k, hk, ?_⟩
      · rw [la_of (crashed_at _ k (by rw [hpp]; intro y hy e; obtain rfl : y = (at_, zeroB) := (by simpa using hy); exact hk e.symm)), put_la _ _ _ _ hl, if_neg hk]
      · rw [hto, put_fl, hcalm]
  · rw [h, if_neg (by simp)]
    refine .inr ⟨_, rfl, rfl, fun k _ => ?_, 0, by omega, ?_⟩
    · rw [la_of (crashed_at d k (by rw [hp]; intro y hy; cases hy))]
    · rw [la_of (crashed_at d at_ (by rw [hp]; intro y hy; cases hy))]; simp

/-- Put over a head of noughts: it is well, or it crashes, and the span is there whole, or its head is torn over noughts. -/
theorem put_crash (d : Dk) (at_ : Nat) (room : Int) (t : Nat) (b : List UInt8) (hd : d.down = false) (hp : d.p = []) (hr : (need b.length : Int) ≤ room) (hl : at_ + cnt b.length < d.s.length) (hla : la d at_ = zeroB) (hw : Wf d) :
    spanPut d at_ room t b = (0, done d at_ t b) ∨ ∃ d', spanPut d at_ room t b = (5, d') ∧ d'.p = [] ∧ (∀ k, k < at_ ∨ at_ + cnt b.length < k → la d' k = la d k) ∧
      (la d' at_ = zeroB ∨ (∃ k, k ≤ 16 ∧ la d' at_ = (headB t b).take k ++ zeroB.drop k) ∧ ∀ k, k < cnt b.length → la d' (at_ + 1 + k) = chunk b k) := by
  have hfl : fl d at_ = zeroB := (wf_calm hw (by omega) (by rw [hp]; intro y hy; cases hy)).symm.trans hla
  have far : ∀ (rs : List (List UInt8)) (k : Nat), rs.length ≤ cnt b.length → k < at_ ∨ at_ + cnt b.length < k → ∀ x ∈ (puts at_ rs d).p, x.1 ≠ k := fun rs k hrs hk x hx e => by
    rcases puts_p rs at_ d x hx with h | h
    · rw [hp] at h; cases h
    · omega
  have near : ∀ (rs : List (List UInt8)), ∀ x ∈ (puts at_ rs d).p, x.1 ≠ at_ := fun rs x hx e => by
    rcases puts_p rs at_ d x hx with h | h
    · rw [hp] at h; cases h
    · omega
  rcases put_cases d at_ room t b hd hr hl with h | ⟨-, ⟨j, hj, h⟩ | h | h⟩
  · exact .inl h
  · have hj' : ((rowsOf b).take j).length ≤ cnt b.length := by rw [List.length_take, rowsOf_length]; omega
    refine .inr ⟨_, h, rfl, fun k hk => ?_, .inl ?_⟩
    · rw [la_of (crashed_at _ k (far _ k hj' hk)), puts_la _ _ _ _ (by omega), dif_neg (by omega)]
    · rw [la_of (crashed_at _ at_ (near _)), puts_la _ _ _ _ (by omega), dif_neg (by omega), hla]
  · have hm : (mid d at_ b).p = [] := rfl
    refine .inr ⟨_, h, rfl, fun k hk => ?_, .inl ?_⟩
    · rw [la_of (crashed_at _ k (by rw [hm]; intro y hy; cases hy))]
      unfold mid
      rw [flushed_la, puts_la _ _ _ _ (by rw [rowsOf_length]; exact hl), dif_neg (by rw [rowsOf_length]; omega)]
    · rw [la_of (crashed_at _ at_ (by rw [hm]; intro y hy; cases hy))]
      unfold mid
      rw [flushed_la, puts_la _ _ _ _ (by rw [rowsOf_length]; exact hl), dif_neg (by omega), hla]
  · have hpp : (headed d at_ t b).p = [(at_, headB t b)] := rfl
    have hlm : at_ < (headed d at_ t b).s.length := by rw [headed_len]; omega
    have hfl2 : fl (headed d at_ t b) at_ = zeroB := by
      unfold headed
      rw [put_fl]
      unfold mid
      rw [fl_of (flushed_at _ at_ (near _)), puts_fl, hfl]
    have hne : ∀ k, k ≠ at_ → ∀ y ∈ (headed d at_ t b).p, y.1 ≠ k := fun k hk y hy e => by
      rw [hpp] at hy
      obtain rfl : y = (at_, headB t b) := by simpa using hy
      exact hk e.symm
    obtain ⟨k, hk, hto⟩ := crashed_one (headed d at_ t b) at_ (headB t b) hpp hlm
    rw [hfl2] at hto
    refine .inr ⟨_, h, rfl, fun i hi => ?_, .inr ⟨⟨k, hk, hto⟩, fun i hi => ?_⟩⟩
    · rw [la_of (crashed_at _ i (hne i (by omega)))]
      unfold headed mid
      rw [put_la _ _ _ _ (by rw [flushed_len, (puts_same _ _ _).1]; omega), if_neg (by omega), flushed_la, puts_la _ _ _ _ (by rw [rowsOf_length]; exact hl), dif_neg (by rw [rowsOf_length]; omega)]
    · rw [la_of (crashed_at _ _ (hne _ (by omega)))]
      unfold headed mid
      rw [put_la _ _ _ _ (by rw [flushed_len, (puts_same _ _ _).1]; omega), if_neg (by omega), flushed_la, puts_la _ _ _ _ (by rw [rowsOf_length]; exact hl), dif_pos ⟨by omega, by rw [rowsOf_length]; omega⟩, rowsOf_at]
      congr 1; omega

/-! ### Generations that rise by one -/
/-- A slot where the elder generation is, or nothing. -/
def Free (d : Dk) (at_ : Nat) (gen : Nat) : Prop := Dead (la d at_) ∨ 2 ≤ gen ∧ ∃ a : List UInt8, a.length ≤ 300 ∧ Here d at_ (gen - 1) a
def slotAt (gen : Nat) : Nat := gen % 2 * 37
structure Inv (d : Dk) (gen : Nat) (b : List UInt8) : Prop where
  wf : Wf d
  p : d.p = []
  down : d.down = false
  armed : d.armed = false
  n : d.n = 0
  len : d.s.length = 100
  short : b.length ≤ 300
  cur : gen = 0 ∧ b = [] ∧ Dead (la d 0) ∨ 1 ≤ gen ∧ Here d (slotAt gen) gen b
  nxt : Free d (slotAt (gen + 1)) gen

theorem here_of {d d' : Dk} {at_ t : Nat} {b : List UInt8} (h : Here d at_ t b) (e : ∀ k, at_ ≤ k → k ≤ at_ + cnt b.length → la d' k = la d k) : Here d' at_ t b :=
  ⟨(e at_ (Nat.le_refl _) (by omega)).trans h.1, fun k hk => (e _ (by omega) (by omega)).trans (h.2 k hk)⟩
theorem slot_far (gen : Nat) {k c : Nat} (h1 : slotAt gen ≤ k) (h2 : k ≤ slotAt gen + c) (hc : c ≤ 36) {c2 : Nat} (hc2 : c2 ≤ 36) : k < slotAt (gen + 1) ∨ slotAt (gen + 1) + c2 < k := by
  unfold slotAt at *
  rcases Nat.mod_two_eq_zero_or_one gen with h | h <;> omega
theorem slot_far' (gen : Nat) {k c : Nat} (h1 : slotAt (gen + 1) ≤ k) (h2 : k ≤ slotAt (gen + 1) + c) (hc : c ≤ 36) {c2 : Nat} (hc2 : c2 ≤ 36) : k < slotAt gen ∨ slotAt gen + c2 < k := by
  unfold slotAt at *
  rcases Nat.mod_two_eq_zero_or_one gen with h | h <;> omega
theorem slot_lt (gen : Nat) : slotAt gen ≤ 37 := by unfold slotAt; omega
theorem slot_two (gen : Nat) : slotAt (gen + 2) = slotAt gen := by unfold slotAt; omega
theorem cnt300 {b : List UInt8} (h : b.length ≤ 300) : cnt b.length ≤ 19 := by unfold cnt; omega

theorem new_la (n i : Nat) (h : i < n) : la (Dk.new n) i = zeroB := by
  unfold la Dk.new
  simp [h, zeroB]
theorem inv_new : Inv (Dk.new 100) 0 [] :=
  ⟨wf_new 100, rfl, rfl, rfl, rfl, by simp [Dk.new], by simp, .inl ⟨rfl, rfl, by rw [new_la 100 0 (by omega)]; exact dead_zero⟩, .inl (by rw [new_la 100 _ (by decide)]; exact dead_zero)⟩

theorem get_big {d : Dk} (hl : d.s.length = 100) {at_ t : Nat} {b : List UInt8} (ha : at_ ≤ 37) (ht : t < 256) (h0 : t ≠ 0) (hb : b.length ≤ 300) (h : Here d at_ t b) : spanGet d at_ 37 = some (t, b) :=
  get_here d at_ 37 t b h (by omega) h0 (by omega) (by have := cnt300 hb; omega) (by have := cnt300 hb; unfold need; omega)

/-- WHAT IS LOADED: the last generation. -/
theorem inv_load {d : Dk} {gen : Nat} {b : List UInt8} (h : Inv d gen b) (hg : gen < 256) : slotLoad d = if gen = 0 then none else some (gen, b) := by
  have hroom : room d = 37 := by unfold room; rw [h.len]
  have hfree : spanGet d (slotAt (gen + 1)) 37 = none ∨ ∃ a, 2 ≤ gen ∧ spanGet d (slotAt (gen + 1)) 37 = some (gen - 1, a) := by
    have hlt := slot_lt (gen + 1)
    rcases h.nxt with h1 | ⟨h2, a, ha, h1⟩
    · exact .inl (get_dead d _ _ (by have := h.len; omega) h1)
    · exact .inr ⟨a, h2, get_big h.len hlt (by omega) (by omega) ha h1⟩
  unfold slotLoad
  rw [hroom]
  rcases h.cur with ⟨rfl, rfl, h1⟩ | ⟨h1, h2⟩
  · have e0 : spanGet d ((0 : Nat) : Int) 37 = none := get_dead d 0 37 (by have := h.len; omega) h1
    rcases hfree with h3 | ⟨a, h3, -⟩
    · have e1 : spanGet d ((37 : Nat) : Int) 37 = none := h3
      show better (better none (spanGet d ((0 : Nat) : Int) 37)) (spanGet d ((37 : Nat) : Int) 37) = _
      rw [e0, e1]; rfl
    · omega
  · have ec := get_big h.len (slot_lt gen) hg (by omega) h.short h2
    rw [if_neg (by omega)]
    have hb : ∀ a : List UInt8, better (some (gen - 1, a)) (some (gen, b)) = some (gen, b) := fun a => by
      unfold better genOf; simp; omega
    have hb' : ∀ a : List UInt8, better (some (gen, b)) (some (gen - 1, a)) = some (gen, b) := fun a => by
      unfold better genOf; simp; omega
    have h0 : better none (some (gen, b)) = some (gen, b) := by unfold better genOf; simp; omega
    have h0' : ∀ a : List UInt8, 2 ≤ gen → better none (some (gen - 1, a)) = some (gen - 1, a) := fun a h2 => by unfold better genOf; simp; omega
    rcases Nat.mod_two_eq_zero_or_one gen with hm | hm
    · have s1 : slotAt gen = 0 := by unfold slotAt; omega
      have s2 : slotAt (gen + 1) = 37 := by unfold slotAt; omega
      rw [s1] at ec
      rw [s2] at hfree
      show better (better none (spanGet d ((0 : Nat) : Int) 37)) (spanGet d ((37 : Nat) : Int) 37) = _
      rw [ec, h0]
      rcases hfree with h3 | ⟨a, h3, h4⟩
      · rw [h3]; rfl
      · rw [h4, hb']
    · have s1 : slotAt gen = 37 := by unfold slotAt; omega
      have s2 : slotAt (gen + 1) = 0 := by unfold slotAt; omega
      rw [s1] at ec
      rw [s2] at hfree
      show better (better none (spanGet d ((0 : Nat) : Int) 37)) (spanGet d ((37 : Nat) : Int) 37) = _
      rw [ec]
      rcases hfree with h3 | ⟨a, h3, h4⟩
      · rw [h3]; exact h0
      · rw [h4, h0' a h3, hb]

/-- WHAT SAVE MAKES OF IT, wherever it crashes. -/
theorem inv_save {d0 d : Dk} {gen : Nat} {last b : List UInt8} (h : Inv d0 gen last) (hg : gen < 255) (hb : b.length ≤ 300) (hd : d = d0 ∨ ∃ at_ l, d = d0.arm at_ l) :
    ∃ e d1, slotSave d ((gen : Int) + 1) b = (e, d1) ∧ (e = 0 ∧ Inv d1.restart (gen + 1) b ∨ e = 5 ∧ (Inv d1.restart gen last ∨ Inv d1.restart (gen + 1) b)) := by
  have hs : d.s = d0.s := by rcases hd with rfl | ⟨at_, l, rfl⟩ <;> rfl
  have hp : d.p = [] := by rcases hd with rfl | ⟨at_, l, rfl⟩ <;> exact h.p
  have hdn : d.down = false := by rcases hd with rfl | ⟨at_, l, rfl⟩ <;> exact h.down
  have hwf : Wf d := wf_of h.wf hs (hp.trans h.p.symm)
  have hla : ∀ k, la d k = la d0 k := fun k => la_of (by rw [hs])
  have hlen : d.s.length = 100 := by rw [hs]; exact h.len
  have hroom : room d = 37 := by unfold room; rw [hlen]
  have hat : ((gen : Int) + 1) % 2 * ((37 : Nat) : Int) = ((slotAt (gen + 1) : Nat) : Int) := by unfold slotAt; omega
  have hlt := slot_lt (gen + 1)
  have hcb := cnt300 hb
  have hcl := cnt300 h.short
  have e1 : slotSave d ((gen : Int) + 1) b = if (spanClear d (slotAt (gen + 1) : Nat)).1 ≠ 0 then spanClear d (slotAt (gen + 1) : Nat) else spanPut (spanClear d (slotAt (gen + 1) : Nat)).2 (slotAt (gen + 1) : Nat) ((37 : Nat) : Int) (gen + 1) b := by
    unfold slotSave
    rw [if_neg (by omega), hroom, if_neg (by unfold need; omega), hat, show ((gen : Int) + 1).toNat = gen + 1 by omega]
  -- what the next disk is, by what it reads
  have stay : ∀ d1 : Dk, Wf d1 → d1.p = [] → d1.s.length = 100 → (∀ k, k < slotAt (gen + 1) ∨ slotAt (gen + 1) + 19 < k → la d1 k = la d0 k) → Free d1 (slotAt (gen + 1)) gen → Inv d1.restart gen last := fun d1 w1 p1 l1 o1 f1 => by
    have hr : ∀ k, la d1.restart k = la d1 k := restart_la' d1 p1
    refine ⟨wf_restart w1, rfl, rfl, rfl, rfl, by rw [restart_len, l1], h.short, ?_, ?_⟩
    · rcases h.cur with ⟨g0, b0, h1⟩ | ⟨h1, h2⟩
      · refine .inl ⟨g0, b0, ?_⟩
        subst g0
        rw [hr, o1 0 (.inl (by decide))]; exact h1
      · exact .inr ⟨h1, here_of h2 fun k k1 k2 => (hr k).trans (o1 k (slot_far gen k1 k2 (by omega) (by omega)))⟩
    · rcases f1 with f1 | ⟨f1, a, fa, f2⟩
      · exact .inl (by rw [hr]; exact f1)
      · exact .inr ⟨f1, a, fa, here_of f2 fun k _ _ => hr k⟩
  have next : ∀ d1 : Dk, Wf d1 → d1.p = [] → d1.s.length = 100 → (∀ k, k < slotAt (gen + 1) ∨ slotAt (gen + 1) + 19 < k → la d1 k = la d0 k) → Here d1 (slotAt (gen + 1)) (gen + 1) b → Inv d1.restart (gen + 1) b := fun d1 w1 p1 l1 o1 f1 => by
    have hr : ∀ k, la d1.restart k = la d1 k := restart_la' d1 p1
    refine ⟨wf_restart w1, rfl, rfl, rfl, rfl, by rw [restart_len, l1], hb, .inr ⟨by omega, here_of f1 fun k _ _ => hr k⟩, ?_⟩
    show Free _ (slotAt (gen + 2)) (gen + 1)
    rw [slot_two]
    rcases h.cur with ⟨g0, b0, h1⟩ | ⟨h1, h2⟩
    · left
      subst g0
      show Dead (la _ 0)
      rw [hr, o1 0 (.inl (by decide))]; exact h1
    · exact .inr ⟨by omega, last, h.short, here_of h2 fun k k1 k2 => (hr k).trans (o1 k (slot_far gen k1 k2 (by omega) (by omega)))⟩
  rw [e1]
  rcases clear_cases d (slotAt (gen + 1)) hdn hp (by omega) hwf with hc | ⟨d', hc, p1, o1, k, hk, t1⟩
  · rw [hc, if_neg (by simp)]
    obtain ⟨d2, hd2⟩ : ∃ d2, d2 = (d.put (slotAt (gen + 1)) zeroB).flushed := ⟨_, rfl⟩
    have w2 : Wf d2 := by have := wf_spanClear hwf (slotAt (gen + 1) : Nat); rw [hc] at this; rw [hd2]; exact this
    have l2 : d2.s.length = 100 := by rw [hd2, flushed_len, put_len, hlen]
    have p2 : d2.p = [] := by rw [hd2]; rfl
    have n2 : d2.down = false := by rw [hd2]; exact hdn
    have a2 : ∀ k, la d2 k = if k = slotAt (gen + 1) then zeroB else la d k := fun k => by rw [hd2, flushed_la, put_la _ _ _ _ (by omega)]
    rw [← hd2]
    rcases put_crash d2 (slotAt (gen + 1)) ((37 : Nat) : Int) (gen + 1) b n2 p2 (by unfold need; omega) (by omega) (by rw [a2, if_pos rfl]) w2 with hq | ⟨d3, hq, p3, o3, t3⟩
    · refine ⟨0, _, hq, .inl ⟨rfl, next _ ?_ rfl (by rw [done_len, l2]) (fun k hk => ?_) (done_here _ _ _ _ (by omega))⟩⟩
      · have := wf_spanPut w2 (slotAt (gen + 1) : Nat) ((37 : Nat) : Int) (gen + 1) b
        rw [hq] at this; exact this
      · rw [done_la _ _ _ _ _ (by omega), if_neg (by omega), if_neg (by omega), a2, if_neg (by omega), hla]
    · have w3 : Wf d3 := by have := wf_spanPut w2 (slotAt (gen + 1) : Nat) ((37 : Nat) : Int) (gen + 1) b; rw [hq] at this; exact this
      have l3 : d3.s.length = 100 := by have := spanPut_len d2 (slotAt (gen + 1) : Nat) ((37 : Nat) : Int) (gen + 1) b; rw [hq] at this; exact this.trans l2
      have o4 : ∀ k, k < slotAt (gen + 1) ∨ slotAt (gen + 1) + 19 < k → la d3 k = la d0 k := fun k hk => by rw [o3 k (by omega), a2, if_neg (by omega), hla]
      refine ⟨5, d3, hq, .inr ⟨rfl, ?_⟩⟩
      rcases t3 with t3 | ⟨⟨k, hk, t3⟩, t4⟩
      · exact .inl (stay d3 w3 p3 l3 o4 (.inl (by rw [t3]; exact dead_zero)))
      · rcases new_torn (gen + 1) b (by omega) hk with h5 | h5
        · exact .inr (next d3 w3 p3 l3 o4 ⟨t3.trans h5, t4⟩)
        · exact .inl (stay d3 w3 p3 l3 o4 (.inl (by rw [t3]; exact h5)))
  · rw [hc, if_pos (by simp)]
    have w1 : Wf d' := by have := wf_spanClear hwf (slotAt (gen + 1) : Nat); rw [hc] at this; exact this
    have l1 : d'.s.length = 100 := by have := spanClear_len d (slotAt (gen + 1) : Nat); rw [hc] at this; exact this.trans hlen
    refine ⟨5, d', rfl, .inr ⟨rfl, .inl (stay d' w1 p1 l1 (fun k hk => by rw [o1 k (by omega), hla]) ?_)⟩⟩
    rcases h.nxt with f1 | ⟨f1, a, fa, f2⟩
    · exact .inl (by rw [t1, hla]; exact dead_torn f1 hk)
    · rw [hla, f2.1] at t1
      rcases elder_torn (gen - 1) a (by omega) hk with h5 | h5
      · exact .inr ⟨f1, a, fa, t1.trans h5, fun i hi => by rw [o1 _ (by omega), hla]; exact f2.2 i hi⟩
      · exact .inl (by rw [t1]; exact h5)
end Go.Proofs.YtilplpjdbkipoaaGreatDoor.SpanMath
