/-
  Proved: plain facts on spans over a disk's model: what Put, Get, Clear make of it; a span that was put is there, also behind other spans; where a crash falls within Put, the span that is there is of the elder tag, or it is the new one whole. Conditions: as each says.
-/
import Derived.Test.YtilplpjdbkipoaaGreatDoorDiskMath
import Derived.Test.YtilplpjdbkipoaaGreatDoorSumMath
namespace Go.Proofs.YtilplpjdbkipoaaGreatDoor.SpanMath
open Go DiskMath SumMath

/-! ### Words -/
/-- How many sectors bytes take. -/
def cnt (n : Nat) : Nat := (n + 15) / 16
/-- How many sectors a span needs. -/
def need (n : Nat) : Nat := 1 + cnt n
/-- A sector that begins with l. -/
def pad (l : List UInt8) : List UInt8 := l.take 16 ++ List.replicate (16 - l.length) 0
def chunk (b : List UInt8) (k : Nat) : List UInt8 := pad (b.drop (16 * k))
def rowsOf (b : List UInt8) : List (List UInt8) := (List.range (cnt b.length)).map (chunk b)
def headB (tag : Nat) (b : List UInt8) : List UInt8 := fourB tag ++ fourB b.length ++ fourB (sumOf b) ++ fourB tag
def zeroB : List UInt8 := List.replicate 16 0

/-- Rows are written to the sectors behind one. -/
def putRows (at_ : Int) : List (List UInt8) → Dk → Int × Dk
  | [], d => (0, d)
  | r :: rs, d => if (d.write (at_ + 1) r).1 = 0 then putRows (at_ + 1) rs (d.write (at_ + 1) r).2 else d.write (at_ + 1) r
def putHead (d : Dk) (at_ : Int) (h : List UInt8) : Int × Dk :=
  if (d.write at_ h).1 = 0 then (d.write at_ h).2.flush else d.write at_ h
def spanPut (d : Dk) (at_ room : Int) (tag : Nat) (b : List UInt8) : Int × Dk :=
  if room < (need b.length : Int) then (4, d)
  else if (putRows at_ (rowsOf b) d).1 ≠ 0 then putRows at_ (rowsOf b) d
  else if (putRows at_ (rowsOf b) d).2.flush.1 ≠ 0 then (putRows at_ (rowsOf b) d).2.flush
  else putHead (putRows at_ (rowsOf b) d).2.flush.2 at_ (headB tag b)
def spanClear (d : Dk) (at_ : Int) : Int × Dk := putHead d at_ zeroB
/-- Rows read behind a sector. -/
def gather (d : Dk) (at_ : Int) : Nat → List UInt8
  | 0 => []
  | k + 1 => gather d at_ k ++ d.read (at_ + 1 + (k : Int))
def spanGet (d : Dk) (at_ room : Int) : Option (Nat × List UInt8) :=
  if d.has at_ = false then none
  else if getB (d.read at_) = 0 ∨ getB (d.read at_) ≠ getB ((d.read at_).drop 12) then none
  else if min room ((d.s.length : Int) - at_) < (need (getB ((d.read at_).drop 4)) : Int) then none
  else if sumOf ((gather d at_ (cnt (getB ((d.read at_).drop 4)))).take (getB ((d.read at_).drop 4))) ≠ getB ((d.read at_).drop 8) then none
  else some (getB (d.read at_), (gather d at_ (cnt (getB ((d.read at_).drop 4)))).take (getB ((d.read at_).drop 4)))

/-! ### Numbers, bytes -/
theorem need_eq (n : Nat) : need n = 1 + n / 16 + min (n % 16) 1 := by unfold need cnt; omega
theorem cnt_lt (n k : Nat) : k < cnt n ↔ 16 * k < n := by unfold cnt; omega
theorem cnt_le (n : Nat) : n ≤ 16 * cnt n := by unfold cnt; omega
theorem cnt_self (n : Nat) : cnt n ≤ n := by unfold cnt; omega
theorem pad_length (l : List UInt8) : (pad l).length = 16 := by simp [pad]; omega
theorem chunk_length (b : List UInt8) (k : Nat) : (chunk b k).length = 16 := pad_length _
theorem rowsOf_length (b : List UInt8) : (rowsOf b).length = cnt b.length := by simp [rowsOf]
theorem rowsOf_at (b : List UInt8) (k : Nat) (h : k < (rowsOf b).length) : (rowsOf b)[k] = chunk b k := by simp [rowsOf]
theorem rowsOf_16 (b : List UInt8) : ∀ r ∈ rowsOf b, r.length = 16 := fun r hr => by
  simp only [rowsOf, List.mem_map] at hr
  obtain ⟨k, -, rfl⟩ := hr
  exact chunk_length b k
theorem pad_eq (l : List UInt8) : pad l = (l ++ List.replicate 16 0).take 16 := by
  unfold pad
  rw [List.take_append, List.take_replicate, Nat.min_eq_left (by omega)]
theorem fourB_length (n : Nat) : (fourB n).length = 4 := rfl
theorem headB_length (tag : Nat) (b : List UInt8) : (headB tag b).length = 16 := rfl
theorem getB_append (n : Nat) (h : n < 4294967296) (r : List UInt8) : getB (fourB n ++ r) = n := by
  have := get_four n h
  unfold getB fourB at *
  simpa using this
theorem getB_take (l r : List UInt8) (h : l.take 4 = r.take 4) (h4 : 4 ≤ l.length) (h5 : 4 ≤ r.length) : getB l = getB r := by
  match l, r, h4, h5 with
  | a :: b :: c :: d :: _, a' :: b' :: c' :: d' :: _, _, _ =>
    simp only [List.take_succ_cons, List.take_zero, List.cons.injEq, and_true] at h
    obtain ⟨rfl, rfl, rfl, rfl⟩ := h
    rfl
theorem head_tag (tag : Nat) (h : tag < 4294967296) (b : List UInt8) : getB (headB tag b) = tag := by
  unfold headB
  rw [List.append_assoc, List.append_assoc]
  exact getB_append tag h _
theorem head_again (tag : Nat) (h : tag < 4294967296) (b : List UInt8) : getB ((headB tag b).drop 12) = tag := by
  have e : (headB tag b).drop 12 = fourB tag ++ [] := rfl
  rw [e]; exact getB_append tag h _
theorem head_size (tag : Nat) (b : List UInt8) (h : b.length < 4294967296) : getB ((headB tag b).drop 4) = b.length := by
  have e : (headB tag b).drop 4 = fourB b.length ++ (fourB (sumOf b) ++ fourB tag) := rfl
  rw [e]; exact getB_append _ h _
theorem head_sum (tag : Nat) (b : List UInt8) : getB ((headB tag b).drop 8) = sumOf b := by
  have e : (headB tag b).drop 8 = fourB (sumOf b) ++ fourB tag := rfl
  rw [e]; exact getB_append _ (sumOf_lt b) _

/-! ### The disk's steps, sector by sector -/
/-- What sector i reads. -/
def la (d : Dk) (i : Nat) : List UInt8 := ((d.s[i]?).getD ([], [])).2
/-- What of sector i is flushed. -/
def fl (d : Dk) (i : Nat) : List UInt8 := ((d.s[i]?).getD ([], [])).1
theorem read_la (d : Dk) (i : Nat) (h : i < d.s.length) : d.read (i : Int) = la d i := by
  unfold Dk.read la
  rw [if_pos (by simp [Dk.has, h]), Int.toNat_natCast, List.getD_eq_getElem?_getD]

theorem put_len (d : Dk) (i : Nat) (b : List UInt8) : (d.put i b).s.length = d.s.length := by simp [Dk.put]
theorem put_la (d : Dk) (i : Nat) (b : List UInt8) (k : Nat) (hi : i < d.s.length) : la (d.put i b) k = if k = i then b else la d k := by
  unfold la Dk.put
  rw [List.getElem?_modify]
  by_cases e : k = i
  · subst e
    simp [hi]
  · rw [if_neg e]
    cases d.s[k]? with
    | none => simp
    | some y => simp [Ne.symm e]
theorem put_fl (d : Dk) (i : Nat) (b : List UInt8) (k : Nat) : fl (d.put i b) k = fl d k := by
  unfold fl Dk.put
  rw [List.getElem?_modify]
  cases h : d.s[k]? with
  | none => simp
  | some x => by_cases e : i = k <;> simp [e]

theorem iter_at {f : Nat → Secs → Secs} (k : Nat) (n : Nat) (h : ∀ j s, j < n → (f j s)[k]? = s[k]?) : ∀ (m : Nat) (s : Secs), m ≤ n → (iter f m s)[k]? = s[k]?
  | 0, _, _ => rfl
  | m + 1, s, hm => by rw [iter, h m _ (by omega), iter_at k n h m s (by omega)]
theorem mod_at {s : Secs} {i k : Nat} (h : i ≠ k) (g : List UInt8 × List UInt8 → List UInt8 × List UInt8) : (s.modify i g)[k]? = s[k]? := by
  rw [List.getElem?_modify]
  simp [h]
theorem flush_at_ne (p : List (Nat × List UInt8)) (k : Nat) (h : ∀ x ∈ p, x.1 ≠ k) (j : Nat) (s : Secs) : (flushR p j s)[k]? = s[k]? := by
  unfold flushR
  split
  · rename_i x hx
    exact mod_at (h x (List.mem_of_getElem? hx)) _
  · rfl
theorem drop_at_ne (p : List (Nat × List UInt8)) (k : Nat) (h : ∀ x ∈ p, x.1 ≠ k) (j : Nat) (s : Secs) : (dropR p j s)[k]? = s[k]? := by
  unfold dropR
  split
  · rename_i x hx
    exact mod_at (h x (List.mem_of_getElem? hx)) _
  · rfl
theorem crash_at_ne (left : List Int) (p : List (Nat × List UInt8)) (k : Nat) (h : ∀ x ∈ p, x.1 ≠ k) (j : Nat) (s : Secs) : (crashR left p j s)[k]? = s[k]? := by
  unfold crashR
  split
  · rename_i x hx
    exact mod_at (h x (List.mem_of_getElem? hx)) _
  · rfl
/-- Where nothing is pending a flush turns nothing. -/
theorem flushed_at (d : Dk) (k : Nat) (h : ∀ x ∈ d.p, x.1 ≠ k) : d.flushed.s[k]? = d.s[k]? := by
  unfold Dk.flushed
  exact iter_at k d.p.length (fun j s _ => flush_at_ne d.p k h j s) _ _ (Nat.le_refl _)
/-- .. nor a crash with the restart behind it. -/
theorem crashed_at (d : Dk) (k : Nat) (h : ∀ x ∈ d.p, x.1 ≠ k) : d.crashed.s[k]? = d.s[k]? := by
  show (iter (dropR d.p) d.p.length d.torn.s)[k]? = _
  rw [iter_at k d.p.length (fun j s _ => drop_at_ne d.p k h j s) _ _ (Nat.le_refl _)]
  show (iter (crashR d.left d.p) d.p.length d.s)[k]? = _
  exact iter_at k d.p.length (fun j s _ => crash_at_ne d.left d.p k h j s) _ _ (Nat.le_refl _)
theorem flushed_len (d : Dk) : d.flushed.s.length = d.s.length := iter_length (flushR_length d.p) _ _
theorem crashed_len (d : Dk) : d.crashed.s.length = d.s.length := by
  show (iter (dropR d.p) d.p.length (iter (crashR d.left d.p) d.p.length d.s)).length = _
  rw [iter_length (dropR_length d.p), iter_length (crashR_length d.left d.p)]
theorem crashed_p (d : Dk) : d.crashed.p = [] := rfl
/-- A restart of a disk with nothing pending. -/
theorem restart_s (d : Dk) (h : d.p = []) : d.restart.s = d.s := by
  show iter (dropR d.p) d.p.length d.s = _
  rw [h]; rfl
theorem flushed_la (d : Dk) (k : Nat) : la d.flushed k = la d k := by
  unfold la
  have h : ∀ (m : Nat) (s : Secs), (((iter (flushR d.p) m s)[k]?).getD ([], [])).2 = ((s[k]?).getD ([], [])).2 := by
    intro m
    induction m with
    | zero => intro s; rfl
    | succ m ih =>
      intro s
      rw [iter, ← ih s]
      generalize iter (flushR d.p) m s = s'
      unfold flushR
      split
      · rename_i x _
        rw [List.getElem?_modify]
        cases s'[k]? with
        | none => simp
        | some y => by_cases e : x.1 = k <;> simp [e]
      · rfl
  exact h _ _
/-- One write that is flushed. -/
theorem flushed_one (d : Dk) (i : Nat) (b : List UInt8) (hp : d.p = [(i, b)]) (hi : i < d.s.length) : fl d.flushed i = b := by
  unfold fl Dk.flushed
  rw [hp]
  show ((((d.s.modify i fun y => (b, y.2)))[i]?).getD ([], [])).1 = b
  rw [List.getElem?_modify]
  simp [hi]
/-- One write that a crash tears. -/
theorem crashed_one (d : Dk) (i : Nat) (b : List UInt8) (hp : d.p = [(i, b)]) (hi : i < d.s.length) : ∃ k, k ≤ 16 ∧ la d.crashed i = b.take k ++ (fl d i).drop k := by
  refine ⟨keepOf d.left 0, keepOf_le _ _, ?_⟩
  show ((((iter (dropR d.p) d.p.length (iter (crashR d.left d.p) d.p.length d.s)))[i]?).getD ([], [])).2 = _
  rw [hp]
  show ((((d.s.modify i fun y => (b.take (keepOf d.left 0) ++ y.1.drop (keepOf d.left 0), y.2)).modify i fun y => (y.1, y.1))[i]?).getD ([], [])).2 = _
  rw [List.getElem?_modify, List.getElem?_modify]
  simp [fl, hi]

/-! ### A disk that goes on: each operation is well, or it crashes -/
theorem write_cases (d : Dk) (i : Nat) (b : List UInt8) (hd : d.down = false) (hi : i < d.s.length) (hb : b.length = 16) :
    d.write (i : Int) b = (0, d.put i b) ∨ d.armed = true ∧ d.write (i : Int) b = (5, d.crashed) := by
  unfold Dk.write
  rw [if_neg (by simp [hd]), if_neg (by omega), if_neg (by simp [Dk.has, hi])]
  by_cases hh : d.hits = true
  · exact .inr ⟨by simp only [Dk.hits, Bool.and_eq_true] at hh; exact hh.1, by rw [if_pos hh]⟩
  · exact .inl (by rw [if_neg hh]; rfl)
theorem flush_cases (d : Dk) (hd : d.down = false) : d.flush = (0, d.flushed) ∨ d.armed = true ∧ d.flush = (5, d.crashed) := by
  unfold Dk.flush
  rw [if_neg (by simp [hd])]
  by_cases hh : d.hits = true
  · exact .inr ⟨by simp only [Dk.hits, Bool.and_eq_true] at hh; exact hh.1, by rw [if_pos hh]⟩
  · exact .inl (by rw [if_neg hh])

/-- Rows written, all of them well. -/
def puts (at_ : Nat) : List (List UInt8) → Dk → Dk
  | [], d => d
  | r :: rs, d => puts (at_ + 1) rs (d.put (at_ + 1) r)
theorem puts_same : ∀ (rs : List (List UInt8)) (at_ : Nat) (d : Dk), (puts at_ rs d).s.length = d.s.length ∧ (puts at_ rs d).down = d.down ∧ (puts at_ rs d).armed = d.armed ∧ (puts at_ rs d).n = d.n + rs.length ∧
    (puts at_ rs d).p.length = d.p.length + rs.length ∧ (∀ x ∈ (puts at_ rs d).p, x ∈ d.p ∨ at_ < x.1)
  | [], at_, d => ⟨rfl, rfl, rfl, rfl, rfl, fun x hx => .inl hx⟩
  | r :: rs, at_, d => by
    obtain ⟨h1, h2, h3, h4, h5, h6⟩ := puts_same rs (at_ + 1) (d.put (at_ + 1) r)
    refine ⟨h1.trans (put_len d _ r), h2, h3, by rw [puts, h4]; simp [Dk.put]; omega, by rw [puts, h5]; simp [Dk.put]; omega, fun x hx => ?_⟩
    rcases h6 x hx with h | h
    · simp only [Dk.put, List.mem_append, List.mem_singleton] at h
      rcases h with h | rfl
      · exact .inl h
      · exact .inr (by simp)
    · exact .inr (by omega)
theorem puts_fl : ∀ (rs : List (List UInt8)) (at_ : Nat) (d : Dk) (k : Nat), fl (puts at_ rs d) k = fl d k
  | [], _, _, _ => rfl
  | r :: rs, at_, d, k => by rw [puts, puts_fl rs, put_fl]
theorem puts_la : ∀ (rs : List (List UInt8)) (at_ : Nat) (d : Dk) (k : Nat), at_ + rs.length < d.s.length → la (puts at_ rs d) k = if h : at_ < k ∧ k - at_ - 1 < rs.length then rs[k - at_ - 1] else la d k
  | [], at_, d, k, _ => by simp [puts]
  | r :: rs, at_, d, k, hr => by
    simp only [List.length_cons] at hr
    rw [puts, puts_la rs (at_ + 1) _ k (by rw [put_len]; omega), put_la d _ _ _ (by omega)]
    by_cases h : at_ + 1 < k ∧ k - (at_ + 1) - 1 < rs.length
    · rw [dif_pos h, dif_pos ⟨by omega, by simp only [List.length_cons]; omega⟩]
      have e : k - at_ - 1 = (k - (at_ + 1) - 1) + 1 := by omega
      simp only [e, List.getElem_cons_succ]
    · rw [dif_neg h]
      by_cases h' : k = at_ + 1
      · subst h'
        rw [if_pos rfl, dif_pos ⟨by omega, by simp⟩]
        simp
      · rw [if_neg h', dif_neg (by simp only [List.length_cons]; omega)]

theorem putRows_cases : ∀ (rs : List (List UInt8)) (at_ : Nat) (d : Dk), d.down = false → at_ + rs.length < d.s.length → (∀ r ∈ rs, r.length = 16) →
    putRows (at_ : Int) rs d = (0, puts at_ rs d) ∨ d.armed = true ∧ ∃ j, j ≤ rs.length ∧ putRows (at_ : Int) rs d = (5, (puts at_ (rs.take j) d).crashed)
  | [], _, _, _, _, _ => .inl rfl
  | r :: rs, at_, d, hd, hr, hl => by
    simp only [List.length_cons] at hr
    have e : ((at_ : Int) + 1) = ((at_ + 1 : Nat) : Int) := by omega
    rcases write_cases d (at_ + 1) r hd (by omega) (hl r (by simp)) with h | ⟨ha, h⟩
    · have hs : putRows (at_ : Int) (r :: rs) d = putRows ((at_ + 1 : Nat) : Int) rs (d.put (at_ + 1) r) := by rw [putRows, e, h]; rfl
      rw [hs]
      rcases putRows_cases rs (at_ + 1) (d.put (at_ + 1) r) hd (by rw [put_len]; omega) (fun x hx => hl x (by simp [hx])) with h2 | ⟨ha, j, hj, h2⟩
      · exact .inl h2
      · exact .inr ⟨ha, j + 1, by simp only [List.length_cons]; omega, by rw [h2, List.take_succ_cons]; rfl⟩
    · exact .inr ⟨ha, 0, Nat.zero_le _, by rw [putRows, e, h]; rfl⟩

/-- The disk ahead of a span's head. -/
def mid (d : Dk) (at_ : Nat) (b : List UInt8) : Dk := (puts at_ (rowsOf b) d).flushed
/-- The disk behind a span's head. -/
def headed (d : Dk) (at_ : Nat) (tag : Nat) (b : List UInt8) : Dk := (mid d at_ b).put at_ (headB tag b)
def done (d : Dk) (at_ : Nat) (tag : Nat) (b : List UInt8) : Dk := (headed d at_ tag b).flushed

theorem mid_len (d : Dk) (at_ : Nat) (b : List UInt8) : (mid d at_ b).s.length = d.s.length := by unfold mid; rw [flushed_len, (puts_same _ _ _).1]
theorem headed_len (d : Dk) (at_ : Nat) (tag : Nat) (b : List UInt8) : (headed d at_ tag b).s.length = d.s.length := by unfold headed; rw [put_len, mid_len]
theorem done_len (d : Dk) (at_ : Nat) (tag : Nat) (b : List UInt8) : (done d at_ tag b).s.length = d.s.length := by unfold done; rw [flushed_len, headed_len]
theorem done_down (d : Dk) (at_ : Nat) (tag : Nat) (b : List UInt8) : (done d at_ tag b).down = d.down := (puts_same _ _ _).2.1
theorem done_armed (d : Dk) (at_ : Nat) (tag : Nat) (b : List UInt8) : (done d at_ tag b).armed = d.armed := (puts_same _ _ _).2.2.1
theorem done_n (d : Dk) (at_ : Nat) (tag : Nat) (b : List UInt8) : (done d at_ tag b).n = d.n + cnt b.length + 3 := by
  show (puts at_ (rowsOf b) d).n + 1 + 1 + 1 = _
  rw [(puts_same _ _ _).2.2.2.1, rowsOf_length]
theorem done_p (d : Dk) (at_ : Nat) (tag : Nat) (b : List UInt8) : (done d at_ tag b).p = [] := rfl

theorem put_cases (d : Dk) (at_ : Nat) (room : Int) (tag : Nat) (b : List UInt8) (hd : d.down = false) (hr : (need b.length : Int) ≤ room) (hl : at_ + cnt b.length < d.s.length) :
    spanPut d at_ room tag b = (0, done d at_ tag b) ∨ d.armed = true ∧
      ((∃ j, j ≤ cnt b.length ∧ spanPut d at_ room tag b = (5, (puts at_ ((rowsOf b).take j) d).crashed)) ∨ spanPut d at_ room tag b = (5, (mid d at_ b).crashed) ∨ spanPut d at_ room tag b = (5, (headed d at_ tag b).crashed)) := by
  have h0 : ¬ room < (need b.length : Int) := by omega
  have ⟨s1, s2, s3, s4, s5, s6⟩ := puts_same (rowsOf b) at_ d
  rcases putRows_cases (rowsOf b) at_ d hd (by rw [rowsOf_length]; exact hl) (rowsOf_16 b) with h | ⟨ha, j, hj, h⟩
  · rcases flush_cases (puts at_ (rowsOf b) d) (s2.trans hd) with h2 | ⟨ha, h2⟩
    · have e1 : spanPut d at_ room tag b = putHead (mid d at_ b) at_ (headB tag b) := by
        unfold spanPut
        rw [if_neg h0, h, if_neg (by simp)]
        simp only [h2]
        rw [if_neg (by simp)]; rfl
      rw [e1]
      unfold putHead
      rcases write_cases (mid d at_ b) at_ (headB tag b) (s2.trans hd) (by rw [mid_len]; omega) (headB_length _ _) with h3 | ⟨ha, h3⟩
      · rw [h3, if_pos rfl]
        rcases flush_cases ((mid d at_ b).put at_ (headB tag b)) (s2.trans hd) with h4 | ⟨ha, h4⟩
        · exact .inl (by simp only [h4]; rfl)
        · exact .inr ⟨by rw [← s3]; exact ha, .inr (.inr (by simp only [h4]; rfl))⟩
      · rw [h3, if_neg (by simp)]
        exact .inr ⟨by rw [← s3]; exact ha, .inr (.inl rfl)⟩
    · refine .inr ⟨by rw [← s3]; exact ha, .inl ⟨cnt b.length, Nat.le_refl _, ?_⟩⟩
      unfold spanPut
      rw [if_neg h0, h, if_neg (by simp)]
      simp only [h2]
      rw [if_pos (by simp), ← rowsOf_length b, List.take_length]
  · refine .inr ⟨ha, .inl ⟨j, by rw [← rowsOf_length b]; exact hj, ?_⟩⟩
    unfold spanPut
    rw [if_neg h0, h, if_pos (by simp)]

/-! ### A span that is there -/
def Here (d : Dk) (at_ : Nat) (tag : Nat) (b : List UInt8) : Prop := la d at_ = headB tag b ∧ ∀ k, k < cnt b.length → la d (at_ + 1 + k) = chunk b k

theorem done_la (d : Dk) (at_ : Nat) (tag : Nat) (b : List UInt8) (k : Nat) (hl : at_ + cnt b.length < d.s.length) :
    la (done d at_ tag b) k = if k = at_ then headB tag b else if at_ < k ∧ k - at_ - 1 < cnt b.length then chunk b (k - at_ - 1) else la d k := by
  unfold done headed mid
  rw [flushed_la, put_la _ _ _ _ (by rw [flushed_len, (puts_same _ _ _).1]; omega), flushed_la, puts_la _ _ _ _ (by rw [rowsOf_length]; exact hl)]
  by_cases e : k = at_
  · rw [if_pos e, if_pos e]
  · rw [if_neg e, if_neg e]
    by_cases h : at_ < k ∧ k - at_ - 1 < cnt b.length
    · rw [if_pos h, dif_pos (by rw [rowsOf_length]; exact h), rowsOf_at]
    · rw [if_neg h, dif_neg (by rw [rowsOf_length]; exact h)]
theorem done_here (d : Dk) (at_ : Nat) (tag : Nat) (b : List UInt8) (hl : at_ + cnt b.length < d.s.length) : Here (done d at_ tag b) at_ tag b := by
  refine ⟨by rw [done_la _ _ _ _ _ hl, if_pos rfl], fun k hk => ?_⟩
  rw [done_la _ _ _ _ _ hl, if_neg (by omega), if_pos ⟨by omega, by omega⟩]
  congr 1; omega
theorem here_far (d : Dk) (at_ : Nat) (tag : Nat) (b : List UInt8) (hl : at_ + cnt b.length < d.s.length) {a2 t2 : Nat} {b2 : List UInt8} (h : Here d a2 t2 b2) (hd : a2 + cnt b2.length < at_) : Here (done d at_ tag b) a2 t2 b2 := by
  refine ⟨?_, fun k hk => ?_⟩
  · rw [done_la _ _ _ _ _ hl, if_neg (by omega), if_neg (by omega)]; exact h.1
  · rw [done_la _ _ _ _ _ hl, if_neg (by omega), if_neg (by omega)]; exact h.2 k hk

theorem gather_take (d : Dk) (at_ : Nat) (b : List UInt8) (hl : at_ + cnt b.length < d.s.length) (h : ∀ k, k < cnt b.length → la d (at_ + 1 + k) = chunk b k) :
    ∀ k, k ≤ cnt b.length → gather d (at_ : Int) k = (b ++ List.replicate 16 0).take (16 * k)
  | 0, _ => by simp [gather]
  | k + 1, hk => by
    have hk' : 16 * k < b.length := (cnt_lt _ _).1 (by omega)
    rw [gather, gather_take d at_ b hl h k (by omega), show (at_ : Int) + 1 + (k : Int) = ((at_ + 1 + k : Nat) : Int) by omega, read_la d _ (by omega), h k (by omega), show 16 * (k + 1) = 16 * k + 16 by omega, List.take_add]
    congr 1
    unfold chunk
    rw [pad_eq, List.drop_append_of_le_length (by omega)]
theorem gather_all (d : Dk) (at_ : Nat) (b : List UInt8) (hl : at_ + cnt b.length < d.s.length) (h : ∀ k, k < cnt b.length → la d (at_ + 1 + k) = chunk b k) :
    (gather d (at_ : Int) (cnt b.length)).take b.length = b := by
  rw [gather_take d at_ b hl h _ (Nat.le_refl _), List.take_take, Nat.min_eq_left (cnt_le _)]
  simp

theorem get_here (d : Dk) (at_ : Nat) (room : Int) (tag : Nat) (b : List UInt8) (h : Here d at_ tag b) (ht : tag < 4294967296) (h0 : tag ≠ 0) (hb : b.length < 4294967296) (hl : at_ + cnt b.length < d.s.length) (hr : (need b.length : Int) ≤ room) :
    spanGet d at_ room = some (tag, b) := by
  have hread : d.read (at_ : Int) = headB tag b := by rw [read_la d at_ (by omega), h.1]
  have hlen := gather_all d at_ b hl h.2
  unfold spanGet
  rw [if_neg (by simp [Dk.has]; omega), hread, head_tag tag ht, head_again tag ht, if_neg (by simp [h0]), head_size tag b hb, if_neg (by unfold need at *; omega), hlen, head_sum, if_neg (by simp)]
theorem get_room (d : Dk) (at_ : Nat) (room : Int) (tag : Nat) (b : List UInt8) (h : Here d at_ tag b) (hb : b.length < 4294967296) (hl : at_ < d.s.length) (hr : room < (need b.length : Int)) :
    spanGet d at_ room = none := by
  have hread : d.read (at_ : Int) = headB tag b := by rw [read_la d at_ (by omega), h.1]
  unfold spanGet
  rw [hread, head_size tag b hb]
  split
  · rfl
  · split
    · rfl
    · rw [if_pos (by omega)]
/-- Which tag a span has. -/
theorem get_tag (d : Dk) (at_ room : Int) (t : Nat) (c : List UInt8) (h : spanGet d at_ room = some (t, c)) : getB (d.read at_) = t ∧ t ≠ 0 ∧ getB ((d.read at_).drop 12) = t := by
  unfold spanGet at h
  split at h
  · cases h
  · split at h
    · cases h
    · rename_i h1
      split at h
      · cases h
      · split at h
        · cases h
        · simp only [Option.some.injEq, Prod.mk.injEq] at h
          obtain ⟨rfl, -⟩ := h
          refine ⟨rfl, fun e => h1 (.inl e), ?_⟩
          exact Classical.byContradiction fun e => h1 (.inr fun e' => e e'.symm)
theorem get_bytes (d : Dk) (at_ room : Int) (t : Nat) (c : List UInt8) (h : spanGet d at_ room = some (t, c)) : c = (gather d at_ (cnt (getB ((d.read at_).drop 4)))).take (getB ((d.read at_).drop 4)) := by
  unfold spanGet at h
  split at h
  · cases h
  · split at h
    · cases h
    · split at h
      · cases h
      · split at h
        · cases h
        · simp only [Option.some.injEq, Prod.mk.injEq] at h
          exact h.2.symm
theorem get_zero (d : Dk) (at_ : Nat) (room : Int) (hl : at_ < d.s.length) (h : la d at_ = zeroB) : spanGet d at_ room = none := by
  have hread : d.read (at_ : Int) = zeroB := by rw [read_la d at_ (by omega), h]
  unfold spanGet
  split
  · rfl
  · rw [hread, if_pos (.inl (by decide))]

/-! ### Where it crashes -/
/-- A head that a crash tears: its last tag is the elder's, or its numbers are the new one's. -/
theorem torn_head (s t : Nat) (a b : List UInt8) (hs : s < 4294967296) (hb : b.length < 4294967296) (k : Nat) (hk : k ≤ 16) :
    getB (((headB t b).take k ++ (headB s a).drop k).drop 12) = s ∨ (getB (((headB t b).take k ++ (headB s a).drop k).drop 4) = b.length) := by
  have hA := headB_length t b
  have hB := headB_length s a
  by_cases h : k ≤ 12
  · left
    have e : ((headB t b).take k ++ (headB s a).drop k).drop 12 = (headB s a).drop 12 := by
      rw [List.drop_append, List.drop_of_length_le (by rw [List.length_take]; omega), List.nil_append, List.drop_drop, List.length_take]
      congr 1; omega
    rw [e]; exact head_again s hs a
  · right
    rw [← head_size t b hb]
    apply getB_take
    · rw [List.drop_append_of_le_length (by rw [List.length_take]; omega), List.take_append_of_le_length (by rw [List.length_drop, List.length_take]; omega), List.drop_take, List.take_take]
      congr 1; omega
    · rw [List.length_drop, List.length_append, List.length_take, List.length_drop]; omega
    · rw [List.length_drop]; omega

/-- The elder head is there. -/
theorem get_elder (d : Dk) (at_ : Nat) (room : Int) (s t : Nat) (a : List UInt8) (hs : s < 4294967296) (hst : s ≠ t) (hl : at_ < d.s.length) (h : la d at_ = headB s a) (c : List UInt8) : spanGet d at_ room ≠ some (t, c) := fun e => by
  have := (get_tag d at_ room t c e).1
  rw [read_la d at_ hl, h, head_tag s hs] at this
  exact hst this

theorem la_of {d d' : Dk} {k : Nat} (h : d.s[k]? = d'.s[k]?) : la d k = la d' k := by unfold la; rw [h]
theorem fl_of {d d' : Dk} {k : Nat} (h : d.s[k]? = d'.s[k]?) : fl d k = fl d' k := by unfold fl; rw [h]

/-- A DISK THAT CRASHES WITHIN PUT: behind a restart the span is the new one, or none of its tag. -/
theorem crash_law (d : Dk) (at_ : Nat) (room room2 : Int) (s t : Nat) (a b : List UInt8) (hs : s < 4294967296) (hst : s ≠ t) (hb : b.length < 4294967296) (hd : d.down = false) (hp : d.p = [])
    (hr : (need b.length : Int) ≤ room) (hl : at_ + cnt b.length < d.s.length) (hla : la d at_ = headB s a) (hfl : fl d at_ = headB s a) :
    spanPut d at_ room t b = (0, done d at_ t b) ∨ ∃ d', spanPut d at_ room t b = (5, d') ∧ ∀ c, spanGet d'.restart at_ room2 = some (t, c) → c = b := by
  have early : ∀ x : Dk, x.s.length = d.s.length → (∀ y ∈ x.p, y.1 ≠ at_) → la x at_ = headB s a → ∀ c, spanGet x.crashed.restart at_ room2 = some (t, c) → c = b := fun x hx hxp hxl c hc => by
    refine absurd hc (get_elder _ at_ room2 s t a hs hst ?_ ?_ c)
    · rw [restart_s _ rfl, crashed_len]; omega
    · rw [la_of (d' := x.crashed) (by rw [restart_s _ rfl]), la_of (crashed_at x at_ hxp), hxl]
  rcases put_cases d at_ room t b hd hr hl with h | ⟨-, ⟨j, hj, h⟩ | h | h⟩
  · exact .inl h
  · have ⟨s1, _, _, _, _, s6⟩ := puts_same ((rowsOf b).take j) at_ d
    have hj' : ((rowsOf b).take j).length ≤ cnt b.length := by rw [List.length_take, rowsOf_length]; omega
    refine .inr ⟨_, h, early _ s1 (fun y hy e => ?_) ?_⟩
    · rcases s6 y hy with h1 | h1
      · rw [hp] at h1; cases h1
      · omega
    · rw [puts_la _ _ _ _ (by omega), dif_neg (by omega), hla]
  · refine .inr ⟨_, h, early _ (mid_len d at_ b) (fun y hy => by cases hy) ?_⟩
    unfold mid
    rw [flushed_la, puts_la _ _ _ _ (by rw [rowsOf_length]; exact hl), dif_neg (by omega), hla]
  · refine .inr ⟨_, h, fun c hc => ?_⟩
    have ⟨s1, _, _, _, _, s6⟩ := puts_same (rowsOf b) at_ d
    have hlm : at_ < (headed d at_ t b).s.length := by rw [headed_len]; omega
    have hfl2 : fl (headed d at_ t b) at_ = headB s a := by
      unfold headed
      rw [put_fl]
      unfold mid
      rw [fl_of (flushed_at _ at_ (fun y hy e => by
        rcases s6 y hy with h1 | h1
        · rw [hp] at h1; cases h1
        · omega)), puts_fl, hfl]
    have hpp : (headed d at_ t b).p = [(at_, headB t b)] := rfl
    obtain ⟨k, hk, hto⟩ := crashed_one (headed d at_ t b) at_ (headB t b) hpp hlm
    rw [hfl2] at hto
    have hla2 : la (headed d at_ t b).crashed.restart at_ = (headB t b).take k ++ (headB s a).drop k := by
      rw [la_of (d' := (headed d at_ t b).crashed) (by rw [restart_s _ rfl]), hto]
    have hlen2 : (headed d at_ t b).crashed.restart.s.length = d.s.length := by rw [restart_s _ rfl, crashed_len, headed_len]
    have hread : (headed d at_ t b).crashed.restart.read (at_ : Int) = (headB t b).take k ++ (headB s a).drop k := by rw [read_la _ at_ (by omega), hla2]
    obtain ⟨g1, -, g2⟩ := get_tag _ _ _ _ _ hc
    have g3 := get_bytes _ _ _ _ _ hc
    rw [hread] at g2 g3
    rcases torn_head s t a b hs hb k hk with h1 | h1
    · exact absurd (h1.symm.trans g2) hst
    · rw [h1] at g3
      rw [g3]
      refine gather_all _ at_ b (by omega) fun i hi => ?_
      rw [la_of (d' := (headed d at_ t b).crashed) (by rw [restart_s _ rfl]), la_of (crashed_at _ _ (fun y hy e => by
        rw [hpp] at hy
        obtain rfl : y = (at_, headB t b) := by simpa using hy
        simp only at e
        omega))]
      unfold headed mid
      rw [put_la _ _ _ _ (by rw [flushed_len, s1]; omega), if_neg (by omega), flushed_la, puts_la _ _ _ _ (by rw [rowsOf_length]; exact hl), dif_pos ⟨by omega, by rw [rowsOf_length]; omega⟩, rowsOf_at]
      congr 1; omega

/-- A disk that goes on and is not armed: Put is well. -/
theorem put_well (d : Dk) (at_ : Nat) (room : Int) (tag : Nat) (b : List UInt8) (hd : d.down = false) (ha : d.armed = false) (hr : (need b.length : Int) ≤ room) (hl : at_ + cnt b.length < d.s.length) :
    spanPut d at_ room tag b = (0, done d at_ tag b) := by
  rcases put_cases d at_ room tag b hd hr hl with h | ⟨h, -⟩
  · exact h
  · rw [ha] at h; cases h
theorem put_full (d : Dk) (at_ : Int) (room : Int) (tag : Nat) (b : List UInt8) (hr : room < (need b.length : Int)) : spanPut d at_ room tag b = (4, d) := by
  unfold spanPut
  rw [if_pos hr]
theorem done_fl (d : Dk) (at_ : Nat) (tag : Nat) (b : List UInt8) (hl : at_ + cnt b.length < d.s.length) : fl (done d at_ tag b) at_ = headB tag b := by
  unfold done
  exact flushed_one _ at_ _ rfl (by rw [headed_len]; omega)
theorem clear_well (d : Dk) (at_ : Nat) (hd : d.down = false) (ha : d.armed = false) (hl : at_ < d.s.length) : spanClear d at_ = (0, (d.put at_ zeroB).flushed) := by
  unfold spanClear putHead
  rcases write_cases d at_ zeroB hd hl (by decide) with h | ⟨h, -⟩
  · rw [h, if_pos rfl]
    rcases flush_cases (d.put at_ zeroB) hd with h | ⟨h, -⟩
    · exact h
    · rw [show (d.put at_ zeroB).armed = d.armed from rfl, ha] at h; cases h
  · rw [ha] at h; cases h
theorem clear_none (d : Dk) (at_ : Nat) (room : Int) (hl : at_ < d.s.length) : spanGet (d.put at_ zeroB).flushed at_ room = none := by
  refine get_zero _ at_ room (by rw [flushed_len, put_len]; exact hl) ?_
  rw [flushed_la, put_la _ _ _ _ hl, if_pos rfl]

/-! ### Row by row -/
theorem putRows_snoc : ∀ (rs : List (List UInt8)) (at_ : Int) (r : List UInt8) (d : Dk), putRows at_ (rs ++ [r]) d = if (putRows at_ rs d).1 = 0 then (putRows at_ rs d).2.write (at_ + (rs.length : Int) + 1) r else putRows at_ rs d
  | [], at_, r, d => by
    simp only [List.nil_append, putRows, List.length_nil, Int.natCast_zero, Int.add_zero, if_pos]
    by_cases h : (d.write (at_ + 1) r).1 = 0
    · rw [if_pos h, ← h]
    · rw [if_neg h]
  | x :: rs, at_, r, d => by
    rw [List.cons_append, putRows, putRows]
    by_cases h : (d.write (at_ + 1) x).1 = 0
    · rw [if_pos h, if_pos h, putRows_snoc rs, List.length_cons, show at_ + 1 + (rs.length : Int) + 1 = at_ + ((rs.length + 1 : Nat) : Int) + 1 by omega]
    · rw [if_neg h, if_neg h, if_neg h]
theorem putRows_stop : ∀ (rs qs : List (List UInt8)) (at_ : Int) (d : Dk), (putRows at_ rs d).1 ≠ 0 → putRows at_ (rs ++ qs) d = putRows at_ rs d
  | [], _, _, _, h => absurd rfl h
  | x :: rs, qs, at_, d, h => by
    rw [List.cons_append, putRows, putRows]
    rw [putRows] at h
    by_cases h1 : (d.write (at_ + 1) x).1 = 0
    · rw [if_pos h1] at h ⊢
      rw [if_pos h1, putRows_stop rs qs _ _ h]
    · rw [if_neg h1, if_neg h1]
theorem write_n (d : Dk) (i : Int) (b : List UInt8) : (d.write i b).2.n ≤ d.n + 1 ∧ (d.write i b).2.p.length ≤ d.p.length + 1 := by
  unfold Dk.write
  repeat' split
  all_goals simp [Dk.put, Dk.crashed, Dk.torn, Dk.drop, Dk.disarm]
theorem flush_n (d : Dk) : d.flush.2.n ≤ d.n + 1 ∧ d.flush.2.p.length ≤ d.p.length := by
  unfold Dk.flush
  repeat' split
  all_goals simp [Dk.flushed, Dk.crashed, Dk.torn, Dk.drop, Dk.disarm]
theorem putRows_n : ∀ (rs : List (List UInt8)) (at_ : Int) (d : Dk), (putRows at_ rs d).2.n ≤ d.n + rs.length ∧ (putRows at_ rs d).2.p.length ≤ d.p.length + rs.length
  | [], _, _ => ⟨Nat.le_refl _, Nat.le_refl _⟩
  | x :: rs, at_, d => by
    have h := write_n d (at_ + 1) x
    rw [putRows, List.length_cons]
    by_cases h1 : (d.write (at_ + 1) x).1 = 0
    · rw [if_pos h1]
      have := putRows_n rs (at_ + 1) (d.write (at_ + 1) x).2
      omega
    · rw [if_neg h1]; omega
theorem fin_rows (b : List UInt8) : (List.finRange (cnt b.length)).map (fun x => chunk b x.1) = rowsOf b := by
  apply List.ext_getElem
  · simp [rowsOf]
  · intro i h1 h2
    simp [rowsOf]
end Go.Proofs.YtilplpjdbkipoaaGreatDoor.SpanMath
