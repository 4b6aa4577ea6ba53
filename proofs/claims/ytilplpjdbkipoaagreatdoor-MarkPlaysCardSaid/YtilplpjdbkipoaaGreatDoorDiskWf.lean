/-
  Proved: plain facts on a disk's model: what a sector reads is what was last written to it of what is pending, else what is flushed; behind a restart both are the same. No conditions but those that each says.
-/
import Derived.Test.YtilplpjdbkipoaaGreatDoorSpanMath
namespace Go.Proofs.YtilplpjdbkipoaaGreatDoor.SpanMath
open Go DiskMath SumMath

/-- What a sector reads, by what is pending. -/
def lastOf (p : List (Nat × List UInt8)) (k : Nat) (x : List UInt8) : List UInt8 := p.foldl (fun x y => if y.1 = k then y.2 else x) x
theorem lastOf_snoc (p : List (Nat × List UInt8)) (i : Nat) (b : List UInt8) (k : Nat) (x : List UInt8) : lastOf (p ++ [(i, b)]) k x = if i = k then b else lastOf p k x := by
  simp [lastOf, List.foldl_append]
theorem lastOf_ne : ∀ (p : List (Nat × List UInt8)) (k : Nat) (x : List UInt8), (∀ y ∈ p, y.1 ≠ k) → lastOf p k x = x
  | [], _, _, _ => rfl
  | y :: p, k, x, h => by
    show lastOf p k (if y.1 = k then y.2 else x) = x
    rw [if_neg (h y (by simp)), lastOf_ne p k x fun z hz => h z (by simp [hz])]

structure Wf (d : Dk) : Prop where
  last : ∀ k, k < d.s.length → la d k = lastOf d.p k (fl d k)
  rng : ∀ y ∈ d.p, y.1 < d.s.length
  row : ∀ y ∈ d.p, y.2.length = 16
  sec : ∀ x ∈ d.s, x.1.length = 16

theorem wf_new (n : Nat) : Wf (Dk.new n) := ⟨fun k hk => by
    have hk' : k < n := by simpa [Dk.new] using hk
    show _ = fl (Dk.new n) k
    unfold la fl Dk.new
    simp [hk'], fun y hy => by simp [Dk.new] at hy, fun y hy => by simp [Dk.new] at hy, fun x hx => by
    simp only [Dk.new, List.mem_replicate] at hx
    obtain ⟨-, rfl⟩ := hx
    rfl⟩

theorem sec_modify {s : Secs} (h : ∀ x ∈ s, x.1.length = 16) (i : Nat) (g : List UInt8 × List UInt8 → List UInt8 × List UInt8) (hg : ∀ x : List UInt8 × List UInt8, x.1.length = 16 → (g x).1.length = 16) : ∀ x ∈ s.modify i g, x.1.length = 16 := by
  intro x hx
  obtain ⟨j, hj⟩ := List.mem_iff_getElem?.1 hx
  rw [List.getElem?_modify] at hj
  cases hs : s[j]? with
  | none => rw [hs] at hj; simp at hj
  | some y =>
    rw [hs] at hj
    have hy := h y (List.mem_of_getElem? hs)
    by_cases e : i = j
    · have : g y = x := by simpa [e] using hj
      rw [← this]; exact hg y hy
    · have : y = x := by simpa [e] using hj
      rw [← this]; exact hy
theorem wf_put {d : Dk} (h : Wf d) (i : Nat) (b : List UInt8) (hi : i < d.s.length) (hb : b.length = 16) : Wf (d.put i b) := by
  refine ⟨fun k hk => ?_, fun y hy => ?_, fun y hy => ?_, sec_modify h.sec i _ fun x hx => hx⟩
  · rw [put_len] at hk
    rw [put_la _ _ _ _ hi, put_fl]
    show _ = lastOf (d.p ++ [(i, b)]) k _
    rw [lastOf_snoc]
    by_cases e : i = k
    · rw [if_pos e, if_pos e.symm]
    · rw [if_neg e, if_neg (Ne.symm e), h.last k hk]
  · rw [put_len]
    simp only [Dk.put, List.mem_append, List.mem_singleton] at hy
    rcases hy with hy | rfl
    · exact h.rng y hy
    · exact hi
  · simp only [Dk.put, List.mem_append, List.mem_singleton] at hy
    rcases hy with hy | rfl
    · exact h.row y hy
    · exact hb

theorem fl_modify (s : Secs) (i k : Nat) (g : List UInt8 × List UInt8 → List UInt8 × List UInt8) (hk : k < s.length) : (((s.modify i g)[k]?).getD ([], [])) = if i = k then g ((s[k]?).getD ([], [])) else (s[k]?).getD ([], []) := by
  rw [List.getElem?_modify, List.getElem?_eq_getElem hk]
  by_cases e : i = k <;> simp [e]

theorem lastOf_take (p : List (Nat × List UInt8)) (m : Nat) (k : Nat) (x : List UInt8) (hm : m < p.length) : lastOf (p.take (m + 1)) k x = if p[m].1 = k then p[m].2 else lastOf (p.take m) k x := by
  rw [List.take_add_one, List.getElem?_eq_getElem hm, Option.toList_some, show [p[m]] = [(p[m].1, p[m].2)] from rfl, lastOf_snoc]

/-- What a flush makes of the sectors. -/
theorem flush_iter (p : List (Nat × List UInt8)) (k : Nat) : ∀ (m : Nat) (s : Secs), m ≤ p.length → k < s.length → (((iter (flushR p) m s)[k]?).getD ([], [])).1 = lastOf (p.take m) k ((s[k]?).getD ([], [])).1
  | 0, s, _, _ => by simp [iter, lastOf]
  | m + 1, s, hm, hk => by
    have ih := flush_iter p k m s (by omega) hk
    have hl : k < (iter (flushR p) m s).length := by rw [iter_length (flushR_length p)]; exact hk
    rw [iter, flushR, List.getElem?_eq_getElem (by omega : m < p.length)]
    simp only
    rw [fl_modify _ _ _ _ hl, lastOf_take p m k _ (by omega)]
    by_cases e : p[m].1 = k
    · simp [e]
    · simp only [e, ↓reduceIte]; exact ih
theorem flushed_fl (d : Dk) (k : Nat) (hk : k < d.s.length) : fl d.flushed k = lastOf d.p k (fl d k) := by
  have := flush_iter d.p k d.p.length d.s (Nat.le_refl _) hk
  rw [List.take_length] at this
  exact this
theorem flush_sec (p : List (Nat × List UInt8)) (hp : ∀ y ∈ p, y.2.length = 16) (m : Nat) (s : Secs) (h : ∀ x ∈ s, x.1.length = 16) : ∀ x ∈ iter (flushR p) m s, x.1.length = 16 := by
  induction m with
  | zero => exact h
  | succ m ih =>
    rw [iter, flushR]
    cases hm : p[m]? with
    | none => exact ih
    | some y => exact sec_modify ih y.1 _ fun _ _ => hp y (List.mem_of_getElem? hm)
theorem crash_sec (left : List Int) (p : List (Nat × List UInt8)) (hp : ∀ y ∈ p, y.2.length = 16) (m : Nat) (s : Secs) (h : ∀ x ∈ s, x.1.length = 16) : ∀ x ∈ iter (crashR left p) m s, x.1.length = 16 := by
  induction m with
  | zero => exact h
  | succ m ih =>
    rw [iter, crashR]
    cases hm : p[m]? with
    | none => exact ih
    | some y => exact sec_modify ih y.1 _ fun x hx => torn_length (hp y (List.mem_of_getElem? hm)) hx (keepOf_le _ _)
theorem drop_sec (p : List (Nat × List UInt8)) (m : Nat) (s : Secs) (h : ∀ x ∈ s, x.1.length = 16) : ∀ x ∈ iter (dropR p) m s, x.1.length = 16 := by
  induction m with
  | zero => exact h
  | succ m ih =>
    rw [iter, dropR]
    cases hm : p[m]? with
    | none => exact ih
    | some y => exact sec_modify ih y.1 _ fun _ hx => hx
theorem wf_flushed {d : Dk} (h : Wf d) : Wf d.flushed := by
  refine ⟨fun k hk => ?_, fun y hy => (List.not_mem_nil hy).elim, fun y hy => (List.not_mem_nil hy).elim, flush_sec d.p h.row _ _ h.sec⟩
  rw [flushed_len] at hk
  rw [flushed_la, h.last k hk, ← flushed_fl d k hk]; rfl

/-- What a drop makes of the sectors. -/
theorem drop_iter (p : List (Nat × List UInt8)) (k : Nat) : ∀ (m : Nat) (s : Secs), m ≤ p.length → k < s.length →
    ((iter (dropR p) m s)[k]?).getD ([], []) = if ∃ y ∈ p.take m, y.1 = k then (((s[k]?).getD ([], [])).1, ((s[k]?).getD ([], [])).1) else (s[k]?).getD ([], [])
  | 0, s, _, _ => by simp [iter]
  | m + 1, s, hm, hk => by
    have ih := drop_iter p k m s (by omega) hk
    have hl : k < (iter (dropR p) m s).length := by rw [iter_length (dropR_length p)]; exact hk
    have ht : p.take (m + 1) = p.take m ++ [p[m]] := by rw [List.take_add_one, List.getElem?_eq_getElem (by omega : m < p.length)]; rfl
    rw [iter, dropR, List.getElem?_eq_getElem (by omega : m < p.length)]
    simp only
    rw [fl_modify _ _ _ _ hl, ih, ht]
    by_cases e : p[m].1 = k
    · have hx : ∃ y ∈ p.take m ++ [p[m]], y.1 = k := ⟨p[m], List.mem_append_right _ (List.mem_singleton.2 rfl), e⟩
      rw [if_pos e, if_pos hx]
      split <;> rfl
    · rw [if_neg e]
      by_cases h : ∃ y ∈ p.take m, y.1 = k
      · obtain ⟨y, hy, he⟩ := h
        rw [if_pos ⟨y, hy, he⟩, if_pos ⟨y, List.mem_append_left _ hy, he⟩]
      · rw [if_neg h, if_neg]
        rintro ⟨y, hy, he⟩
        simp only [List.mem_append, List.mem_singleton] at hy
        rcases hy with hy | rfl
        · exact h ⟨y, hy, he⟩
        · exact e he
theorem crash_iter_la (left : List Int) (p : List (Nat × List UInt8)) (k : Nat) (m : Nat) (s : Secs) : (((iter (crashR left p) m s)[k]?).getD ([], [])).2 = ((s[k]?).getD ([], [])).2 := by
  induction m with
  | zero => rfl
  | succ m ih =>
    rw [iter, crashR]
    cases hm : p[m]? with
    | none => exact ih
    | some y =>
      simp only
      rw [List.getElem?_modify, ← ih]
      cases (iter (crashR left p) m s)[k]? with
      | none => simp
      | some z => by_cases e : y.1 = k <;> simp [e]
theorem dropped_la (d : Dk) (k : Nat) (hk : k < d.s.length) : la d.drop k = if ∃ y ∈ d.p, y.1 = k then fl d k else la d k := by
  have := drop_iter d.p k d.p.length d.s (Nat.le_refl _) hk
  rw [List.take_length] at this
  show (((iter (dropR d.p) d.p.length d.s)[k]?).getD ([], [])).2 = _
  rw [this]
  split <;> rfl
theorem dropped_fl (d : Dk) (k : Nat) (hk : k < d.s.length) : fl d.drop k = fl d k := by
  have := drop_iter d.p k d.p.length d.s (Nat.le_refl _) hk
  show (((iter (dropR d.p) d.p.length d.s)[k]?).getD ([], [])).1 = _
  rw [this]
  split <;> rfl
theorem dropped_len (d : Dk) : d.drop.s.length = d.s.length := iter_length (dropR_length d.p) _ _
/-- Where nothing is pending both are the same. -/
theorem wf_calm {d : Dk} (h : Wf d) {k : Nat} (hk : k < d.s.length) (hp : ∀ y ∈ d.p, y.1 ≠ k) : la d k = fl d k := by rw [h.last k hk, lastOf_ne _ _ _ hp]
theorem wf_drop {d : Dk} (h : ∀ k, k < d.s.length → (∀ y ∈ d.p, y.1 ≠ k) → la d k = fl d k) (hs : ∀ x ∈ d.s, x.1.length = 16) : Wf d.drop := by
  refine ⟨fun k hk => ?_, fun y hy => (List.not_mem_nil hy).elim, fun y hy => (List.not_mem_nil hy).elim, drop_sec _ _ _ hs⟩
  rw [dropped_len] at hk
  show _ = fl d.drop k
  rw [dropped_la d k hk, dropped_fl d k hk]
  by_cases e : ∃ y ∈ d.p, y.1 = k
  · rw [if_pos e]
  · rw [if_neg e]
    exact h k hk fun y hy he => e ⟨y, hy, he⟩
theorem torn_la (d : Dk) (k : Nat) : la d.torn k = la d k := crash_iter_la d.left d.p k _ d.s
theorem torn_fl_ne (d : Dk) (k : Nat) (h : ∀ y ∈ d.p, y.1 ≠ k) : fl d.torn k = fl d k :=
  fl_of (iter_at k d.p.length (fun j s _ => crash_at_ne d.left d.p k h j s) _ _ (Nat.le_refl _))
theorem torn_len (d : Dk) : d.torn.s.length = d.s.length := iter_length (crashR_length d.left d.p) _ _
theorem wf_torn_drop {d : Dk} (h : Wf d) : Wf d.torn.drop := by
  refine wf_drop (d := d.torn) (fun k hk hp => ?_) (crash_sec _ _ h.row _ _ h.sec)
  rw [torn_len] at hk
  rw [torn_la, torn_fl_ne d k hp]
  exact wf_calm h hk hp
theorem wf_of {d d' : Dk} (h : Wf d) (hs : d'.s = d.s) (hp : d'.p = d.p) : Wf d' :=
  ⟨fun k hk => by have := h.last k (hs ▸ hk); unfold la fl at *; rw [hs, hp]; exact this, fun y hy => by rw [hs]; exact h.rng y (hp ▸ hy), fun y hy => h.row y (hp ▸ hy), fun x hx => h.sec x (hs ▸ hx)⟩
theorem wf_crashed {d : Dk} (h : Wf d) : Wf d.crashed := wf_of (wf_torn_drop h) rfl rfl
theorem wf_restart {d : Dk} (h : Wf d) : Wf d.restart := wf_of (wf_drop (fun _ hk hp => wf_calm h hk hp) h.sec) rfl rfl
theorem wf_arm {d : Dk} (h : Wf d) (at_ : Int) (l : List Int) : Wf (d.arm at_ l) := wf_of h rfl rfl
theorem wf_write {d : Dk} (h : Wf d) (i : Int) (b : List UInt8) : Wf (d.write i b).2 := by
  unfold Dk.write
  split
  · exact h
  · split
    · exact h
    · rename_i hb
      split
      · exact h
      · rename_i hi
        split
        · exact wf_crashed h
        · have hi' : d.has i = true := by simpa using hi
          have : 0 ≤ i ∧ i < (d.s.length : Int) := by simpa [Dk.has] using hi'
          exact wf_put h _ _ (by omega) (by omega)
theorem wf_flush {d : Dk} (h : Wf d) : Wf d.flush.2 := by
  unfold Dk.flush
  split
  · exact h
  · split
    · exact wf_crashed h
    · exact wf_flushed h
theorem wf_putRows : ∀ (rs : List (List UInt8)) (at_ : Int) (d : Dk), Wf d → Wf (putRows at_ rs d).2
  | [], _, _, h => h
  | r :: rs, at_, d, h => by
    rw [putRows]
    split
    · exact wf_putRows rs _ _ (wf_write h _ _)
    · exact wf_write h _ _
theorem wf_putHead {d : Dk} (h : Wf d) (at_ : Int) (b : List UInt8) : Wf (putHead d at_ b).2 := by
  unfold putHead
  split
  · exact wf_flush (wf_write h _ _)
  · exact wf_write h _ _
theorem wf_spanPut {d : Dk} (h : Wf d) (at_ room : Int) (tag : Nat) (b : List UInt8) : Wf (spanPut d at_ room tag b).2 := by
  unfold spanPut
  split
  · exact h
  · split
    · exact wf_putRows _ _ _ h
    · split
      · exact wf_flush (wf_putRows _ _ _ h)
      · exact wf_putHead (wf_flush (wf_putRows _ _ _ h)) _ _
theorem wf_spanClear {d : Dk} (h : Wf d) (at_ : Int) : Wf (spanClear d at_).2 := wf_putHead h _ _
/-- How many sectors there are no step turns. -/
theorem write_len (d : Dk) (i : Int) (b : List UInt8) : (d.write i b).2.s.length = d.s.length := by
  unfold Dk.write
  repeat' split
  all_goals first | rfl | exact crashed_len d | exact put_len d _ _
theorem flush_len (d : Dk) : d.flush.2.s.length = d.s.length := by
  unfold Dk.flush
  repeat' split
  all_goals first | rfl | exact crashed_len d | exact flushed_len d
theorem putRows_len : ∀ (rs : List (List UInt8)) (at_ : Int) (d : Dk), (putRows at_ rs d).2.s.length = d.s.length
  | [], _, _ => rfl
  | r :: rs, at_, d => by
    rw [putRows]
    split
    · rw [putRows_len, write_len]
    · exact write_len _ _ _
theorem putHead_len (d : Dk) (at_ : Int) (b : List UInt8) : (putHead d at_ b).2.s.length = d.s.length := by
  unfold putHead
  split
  · rw [flush_len, write_len]
  · exact write_len _ _ _
theorem spanPut_len (d : Dk) (at_ room : Int) (tag : Nat) (b : List UInt8) : (spanPut d at_ room tag b).2.s.length = d.s.length := by
  unfold spanPut
  split
  · rfl
  · split
    · exact putRows_len _ _ _
    · split
      · rw [flush_len, putRows_len]
      · rw [putHead_len, flush_len, putRows_len]
theorem spanClear_len (d : Dk) (at_ : Int) : (spanClear d at_).2.s.length = d.s.length := putHead_len _ _ _
theorem restart_len (d : Dk) : d.restart.s.length = d.s.length := dropped_len d
/-- Numbers: how many operations there were, how many writes are pending. -/
theorem putHead_n (d : Dk) (at_ : Int) (b : List UInt8) : (putHead d at_ b).2.n ≤ d.n + 2 ∧ (putHead d at_ b).2.p.length ≤ d.p.length + 1 := by
  have h1 := write_n d at_ b
  have h2 := flush_n (d.write at_ b).2
  unfold putHead
  split <;> omega
theorem spanPut_n (d : Dk) (at_ room : Int) (tag : Nat) (b : List UInt8) : (spanPut d at_ room tag b).2.n ≤ d.n + cnt b.length + 3 ∧ (spanPut d at_ room tag b).2.p.length ≤ d.p.length + cnt b.length + 1 := by
  have h1 := putRows_n (rowsOf b) at_ d
  rw [rowsOf_length] at h1
  have h2 := flush_n (putRows at_ (rowsOf b) d).2
  have h3 := putHead_n (putRows at_ (rowsOf b) d).2.flush.2 at_ (headB tag b)
  unfold spanPut
  split
  · exact ⟨by show d.n ≤ _; omega, by show d.p.length ≤ _; omega⟩
  · split
    · omega
    · split <;> omega
theorem spanClear_n (d : Dk) (at_ : Int) : (spanClear d at_).2.n ≤ d.n + 2 ∧ (spanClear d at_).2.p.length ≤ d.p.length + 1 := putHead_n _ _ _
end Go.Proofs.YtilplpjdbkipoaaGreatDoor.SpanMath
