/-
  Proved: what a disk's calls answer and make of it, by its model, and what they leave as it was. Conditions: the disk lies in memory; what is handed in can be read; so many writes and operations were not yet that their number would wrap.
-/
import Derived.Test.YtilplpjdbkipoaaGreatDoorDiskCalls
namespace Go.Proofs.YtilplpjdbkipoaaGreatDoor
open Go Go.RowKit DiskMath NetMem

/-- The disk is another one; nothing else is turned but new memory. -/
def Step (D : Nat → Prop) (w w' : World) (p : Value) (d : Dk) : Prop := ∃ D', DiskAt w' D' p d ∧ Kept D w w' ∧ ∀ k, D' k → D k ∨ w.heap.size ≤ k

theorem Step.of {w w' : World} {D K : Nat → Prop} {g s : Nat} {pv lv pv' lv' : Value} {d' : Dk} (hD : ∀ k, Blk g s pv lv k → D k) (hlt : ∀ k, D k → k < w.heap.size) (h' : DiskM w' g s pv' lv' d') (hk : Kept K w w') (hK : ∀ k, K k → D k)
    (hp : ∀ k, pv'.ownBlock = some k → D k ∨ w.heap.size ≤ k) (hl : ∀ k, lv'.ownBlock = some k → D k ∨ w.heap.size ≤ k) : Step D w w' (.pointer (some ⟨g, 0, none⟩)) d' := by
  refine ⟨fun k => D k ∨ (w.heap.size ≤ k ∧ k < w'.heap.size), ⟨g, s, pv', lv', rfl, h', fun k hb => ?_, fun k hd => ?_⟩, hk.mono fun k _ h => hK k h, fun k hd => hd.imp id And.left⟩
  · have hkl := h'.lt hb
    rcases hb with rfl | rfl | hb | hb
    · exact .inl (hD _ (.inl rfl))
    · exact .inl (hD _ (.inr (.inl rfl)))
    · exact (hp k hb).imp id fun h => ⟨h, hkl⟩
    · exact (hl k hb).imp id fun h => ⟨h, hkl⟩
  · rcases hd with hd | hd
    · exact Nat.lt_of_lt_of_le (hlt k hd) hk.size
    · exact hd.2
theorem two_of {D : Nat → Prop} {g s : Nat} {pv lv : Value} (hD : ∀ k, Blk g s pv lv k → D k) : ∀ k, (k = g ∨ k = s) → D k := fun k hk => hD k (hk.elim .inl fun h => .inr (.inl h))
theorem Step.same {w : World} {D : Nat → Prop} {p : Value} {d : Dk} (h : DiskAt w D p d) : Step D w w p d := ⟨D, h, Kept.refl _ _, fun _ h => .inl h⟩
theorem nil_own {k : Nat} {P : Prop} (h : (Value.slice none 0 0).ownBlock = some k) : P := by simp [Value.ownBlock] at h

theorem write_at {w : World} {D : Nat → Prop} {p : Value} {d : Dk} (h : DiskAt w D p d) (i : Int) (v : Value) (l : List UInt8) (hr : Row w v l) (hn : d.n < 4611686018427387904) (hp : d.p.length < 4294967296) :
    Calls Tryz.prog 66 #[p, .int .i64 i, v] w fun e w' => e = .returned (.int .i64 (d.write i l).1) ∧ Step D w w' p (d.write i l).2 := by
  have hA := h
  obtain ⟨g, s, pv, lv, rfl, hm, hD, hlt⟩ := h
  unfold Dk.write
  obtain ⟨q, c, rfl, hlc, -, -⟩ := id hr
  by_cases hd : d.down = true
  · rw [if_pos hd]
    exact (write_down g s pv lv d i _ w hm hd).mono fun e w' ⟨he, hw⟩ => by subst hw; exact ⟨he, Step.same hA⟩
  · rw [if_neg hd]
    have hd' : d.down = false := by simpa using hd
    by_cases hl : l.length ≠ 16
    · rw [if_pos hl]
      exact (write_long g s pv lv d i q l.length c w hm hd' hl).mono fun e w' ⟨he, hw⟩ => by subst hw; exact ⟨he, Step.same hA⟩
    · rw [if_neg hl]
      have hl' : l.length = 16 := by omega
      rw [hl'] at hr ⊢
      by_cases hi : d.has i = false
      · rw [if_pos hi]
        exact (write_none g s pv lv d i q c w hm hd' hi).mono fun e w' ⟨he, hw⟩ => by subst hw; exact ⟨he, Step.same hA⟩
      · rw [if_neg hi]
        have hi' : d.has i = true := by simpa using hi
        by_cases hh : d.hits = true
        · rw [if_pos hh]
          exact (write_hit g s pv lv d i q c w hm hd' hi' hh).mono fun e w' ⟨he, h1, h2⟩ => ⟨he, Step.of hD hlt h1 h2 (two_of hD) (fun k hk => nil_own hk) (fun k hk => nil_own hk)⟩
        · rw [if_neg hh]
          have hh' : d.hits = false := by simpa using hh
          have hb : 0 ≤ i ∧ i < (d.s.length : Int) := by simpa [Dk.has] using hi'
          obtain ⟨j, rfl⟩ := Int.eq_ofNat_of_zero_le hb.1
          have hj : j < d.s.length := by omega
          rw [Int.toNat_natCast]
          exact (write_go g s pv lv d j q c l w hm hd' hj hh' hr hn hp).mono fun e w' ⟨he, pv', h1, h2, h3⟩ => ⟨he, Step.of hD hlt h1 h2 (fun k hk => hD k (hk.elim .inl fun h => .inr (h.elim .inl fun h => .inr (.inl h)))) (fun k hk => (h3 k hk).imp (fun h => hD _ (.inr (.inr (.inl h)))) id) (fun k hk => .inl (hD _ (.inr (.inr (.inr hk)))))⟩

theorem flush_at {w : World} {D : Nat → Prop} {p : Value} {d : Dk} (h : DiskAt w D p d) (hn : d.n < 4611686018427387904) :
    Calls Tryz.prog 45 #[p] w fun e w' => e = .returned (.int .i64 d.flush.1) ∧ Step D w w' p d.flush.2 := by
  have hA := h
  obtain ⟨g, s, pv, lv, rfl, hm, hD, hlt⟩ := h
  unfold Dk.flush
  by_cases hd : d.down = true
  · rw [if_pos hd]
    exact (flush_down g s pv lv d w hm hd).mono fun e w' ⟨he, hw⟩ => by subst hw; exact ⟨he, Step.same hA⟩
  · rw [if_neg hd]
    have hd' : d.down = false := by simpa using hd
    have hK := two_of hD
    by_cases hh : d.hits = true
    · rw [if_pos hh]
      exact (flush_hit g s pv lv d w hm hd' hh).mono fun e w' ⟨he, h1, h2⟩ => ⟨he, Step.of hD hlt h1 h2 hK (fun k hk => nil_own hk) (fun k hk => nil_own hk)⟩
    · rw [if_neg hh]
      have hh' : d.hits = false := by simpa using hh
      exact (flush_go g s pv lv d w hm hd' hh' hn).mono fun e w' ⟨he, h1, h2⟩ => ⟨he, Step.of hD hlt h1 h2 hK (fun k hk => nil_own hk) (fun k hk => .inl (hD _ (.inr (.inr (.inr hk)))))⟩

theorem arm_at {w : World} {D : Nat → Prop} {p : Value} {d : Dk} (h : DiskAt w D p d) (at_ : Int) (v : Value) (l : List Int) (hk : KeepsAt w v l) (hm : l.length ≤ 4294967296) :
    Calls Tryz.prog 7 #[p, .agg #[.int .i64 at_, v]] w fun e w' => e = .returned (.tuple #[]) ∧ Step D w w' p (d.arm at_ l) := by
  obtain ⟨g, s, pv, lv, rfl, hmm, hD, hlt⟩ := h
  exact (arm_m g s pv lv v d at_ l w hmm hk hm).mono fun e w' ⟨he, lv', h1, h2, h3⟩ => ⟨he, Step.of hD hlt h1 h2 (fun k hk => by subst hk; exact hD _ (.inl rfl)) (fun k hk => .inl (hD _ (.inr (.inr (.inl hk))))) (fun k hk => .inr (h3 k hk))⟩
theorem restart_at {w : World} {D : Nat → Prop} {p : Value} {d : Dk} (h : DiskAt w D p d) :
    Calls Tryz.prog 11 #[p] w fun e w' => e = .returned (.tuple #[]) ∧ Step D w w' p d.restart := by
  obtain ⟨g, s, pv, lv, rfl, hmm, hD, hlt⟩ := h
  exact (restart_m g s pv lv d w hmm).mono fun e w' ⟨he, h1, h2⟩ => ⟨he, Step.of hD hlt h1 h2 (two_of hD) (fun k hk => nil_own hk) (fun k hk => nil_own hk)⟩
theorem read_at {w : World} {D : Nat → Prop} {p : Value} {d : Dk} (h : DiskAt w D p d) (i : Int) :
    Calls Tryz.prog 74 #[p, .int .i64 i] w fun e w' => ∃ v, e = .returned v ∧ Own w' w.heap.size v (d.read i) ∧ Below w.heap.size w w' := by
  obtain ⟨g, s, pv, lv, rfl, hm, hD, hlt⟩ := h
  unfold Dk.read
  by_cases hi : d.has i = true
  · rw [if_pos hi]
    have hb : 0 ≤ i ∧ i < (d.s.length : Int) := by simpa [Dk.has] using hi
    obtain ⟨j, rfl⟩ := Int.eq_ofNat_of_zero_le hb.1
    have hj : j < d.s.length := by omega
    rw [Int.toNat_natCast, List.getD_eq_getElem?_getD, List.getElem?_eq_getElem hj, Option.getD_some]
    exact read_in g s pv lv d j w hm hj
  · rw [if_neg hi]
    exact (read_out g s pv lv d i w hm (by simpa using hi)).mono fun e w' ⟨he, hw⟩ => by subst hw; exact ⟨_, he, Own.nil _ _, Below.refl _ _⟩
theorem down_at {w : World} {D : Nat → Prop} {p : Value} {d : Dk} (h : DiskAt w D p d) :
    Calls Tryz.prog 67 #[p] w fun e w' => e = .returned (.bool d.down) ∧ w = w' := by
  obtain ⟨g, s, pv, lv, rfl, hm, hD, hlt⟩ := h
  exact down_m g s pv lv d w hm
theorem size_at {w : World} {D : Nat → Prop} {p : Value} {d : Dk} (h : DiskAt w D p d) :
    Calls Tryz.prog 21 #[p] w fun e w' => e = .returned (.int .i64 (d.s.length : Int)) ∧ w = w' := by
  obtain ⟨g, s, pv, lv, rfl, hm, hD, hlt⟩ := h
  exact size_m g s pv lv d w hm
theorem new_at (n : Nat) (hn : n ≤ 4000) (w : World) :
    Calls Tryz.prog 4 #[.int .i64 (n : Int)] w fun e w' => ∃ g D, e = .returned (.pointer (some ⟨g, 0, none⟩)) ∧ DiskAt w' D (.pointer (some ⟨g, 0, none⟩)) (Dk.new n) ∧ (∀ k, D k → w.heap.size ≤ k) ∧ Below w.heap.size w w' :=
  (new_in n hn w).mono fun e w' ⟨g, s, he, hd, hg, hs, hb⟩ => ⟨g, fun k => k = g ∨ k = s, he, ⟨g, s, _, _, rfl, hd, fun k hk => by
    rcases hk with hk | hk | hk | hk
    · exact .inl hk
    · exact .inr hk
    · exact nil_own hk
    · exact nil_own hk, fun k hk => hk.elim (fun h => by rw [h]; exact hd.glt) fun h => by rw [h]; exact hd.secs.2.2.2.2.lt⟩, fun k hk => by rcases hk with rfl | rfl <;> assumption, hb⟩

/-! ### A disk beside rows of bytes, within a call that began at w0 -/
def St (w0 W : World) (p : Value) (d : Dk) (rows : List (Value × List UInt8)) : Prop :=
  ∃ D, DiskAt W D p d ∧ Below w0.heap.size w0 W ∧ (∀ k, D k → w0.heap.size ≤ k) ∧ ∀ r ∈ rows, Own W w0.heap.size r.1 r.2 ∧ ∀ k, r.1.ownBlock = some k → ¬ D k

theorem St.step {w0 W W' : World} {p : Value} {d d' : Dk} {rows : List (Value × List UInt8)} (h : St w0 W p d rows) (hs : ∀ D, DiskAt W D p d → Step D W W' p d') : St w0 W' p d' rows := by
  obtain ⟨D, hd, hb, hD, hr⟩ := h
  obtain ⟨D', hd', hk, hD'⟩ := hs D hd
  refine ⟨D', hd', hb.trans (hk.below hD hb.size), fun k hk' => ?_, fun r hrr => ?_⟩
  · rcases hD' k hk' with h | h
    · exact hD k h
    · exact Nat.le_trans hb.size h
  · obtain ⟨ho, hn⟩ := hr r hrr
    refine ⟨ho.keep hk.size fun k hk' => hk.block k (ho.lt k hk').2 (hn k hk'), fun k hk' hd => ?_⟩
    rcases hD' k hd with h | h
    · exact hn k hk' h
    · have := (ho.lt k hk').2; omega
theorem St.below {w0 W W' : World} {p : Value} {d : Dk} {rows : List (Value × List UInt8)} (h : St w0 W p d rows) (hb' : Below W.heap.size W W') : St w0 W' p d rows := by
  obtain ⟨D, hd, hb, hD, hr⟩ := h
  exact ⟨D, hd.below hb', hb.trans (hb'.mono hb.size), hD, fun r hrr => ⟨(hr r hrr).1.below hb', (hr r hrr).2⟩⟩
/-- A row that was made just now. -/
theorem St.more {w0 W W' : World} {p : Value} {d : Dk} {rows : List (Value × List UInt8)} (h : St w0 W p d rows) (hb' : Below W.heap.size W W') {v : Value} {l : List UInt8} (ho : Own W' W.heap.size v l) : St w0 W' p d ((v, l) :: rows) := by
  obtain ⟨D, hd, hb, hD, hr⟩ := h.below hb'
  obtain ⟨D0, hd0, hb0, hD0, hr0⟩ := h
  refine ⟨D0, hd0.below hb', hb, hD0, fun r hrr => ?_⟩
  rcases List.mem_cons.1 hrr with rfl | hrr
  · refine ⟨ho.mono hb0.size, fun k hk hd => ?_⟩
    obtain ⟨g, s, pv, lv, -, -, -, hlt⟩ := hd0
    have := hlt k hd
    have := (ho.lt k hk).1
    omega
  · exact ⟨(hr0 r hrr).1.below hb', (hr0 r hrr).2⟩
theorem St.old {w0 W : World} {p : Value} {d : Dk} {rows : List (Value × List UInt8)} (h : St w0 W p d rows) : Below w0.heap.size w0 W := by
  obtain ⟨D, hd, hb, -⟩ := h
  exact hb
theorem St.row {w0 W : World} {p : Value} {d : Dk} {rows : List (Value × List UInt8)} (h : St w0 W p d rows) {v : Value} {l : List UInt8} (hm : (v, l) ∈ rows) : Own W w0.heap.size v l := by
  obtain ⟨D, hd, hb, hD, hr⟩ := h
  exact (hr _ hm).1
theorem St.less {w0 W : World} {p : Value} {d : Dk} {rows rows' : List (Value × List UInt8)} (h : St w0 W p d rows) (hs : ∀ r ∈ rows', r ∈ rows) : St w0 W p d rows' := by
  obtain ⟨D, hd, hb, hD, hr⟩ := h
  exact ⟨D, hd, hb, hD, fun r hrr => hr r (hs r hrr)⟩

theorem new_st (n : Nat) (hn : n ≤ 4000) (z : Int) (hz : z = (n : Int)) (w : World) :
    Calls Tryz.prog 4 #[.int .i64 z] w fun e w' => ∃ g, e = .returned (.pointer (some ⟨g, 0, none⟩)) ∧ St w w' (.pointer (some ⟨g, 0, none⟩)) (Dk.new n) [] := by
  subst hz
  exact (new_at n hn w).mono fun e w' ⟨g, D, he, hd, hD, hb⟩ => ⟨g, he, D, hd, hb, hD, fun r hr => by cases hr⟩
theorem write_st {w0 W : World} {p : Value} {d d' : Dk} {rows : List (Value × List UInt8)} (h : St w0 W p d rows) (i : Int) {v : Value} {l : List UInt8} (hm : Row W v l) {e0 : Int} (he : d.write i l = (e0, d')) (hn : d.n < 4611686018427387904) (hp : d.p.length < 4294967296) :
    Calls Tryz.prog 66 #[p, .int .i64 i, v] W fun e w' => e = .returned (.int .i64 e0) ∧ St w0 w' p d' rows := by
  obtain ⟨D, hd, hb, hD, hr⟩ := h
  have := write_at hd i v l hm hn hp
  rw [he] at this
  exact this.mono fun e w' ⟨h1, h2⟩ => ⟨h1, by
    obtain ⟨D', hd', hk, hD'⟩ := h2
    refine ⟨D', hd', hb.trans (hk.below hD hb.size), fun k hk' => (hD' k hk').elim (hD k) fun h => Nat.le_trans hb.size h, fun r hrr => ?_⟩
    obtain ⟨ho, hn⟩ := hr r hrr
    exact ⟨ho.keep hk.size fun k hk' => hk.block k (ho.lt k hk').2 (hn k hk'), fun k hk' hd => (hD' k hd).elim (hn k hk') fun h => by have := (ho.lt k hk').2; omega⟩⟩
theorem St.of_step {w0 W W' : World} {D : Nat → Prop} {p : Value} {d' : Dk} {rows : List (Value × List UInt8)} (hb : Below w0.heap.size w0 W) (hD : ∀ k, D k → w0.heap.size ≤ k) (hr : ∀ r ∈ rows, Own W w0.heap.size r.1 r.2 ∧ ∀ k, r.1.ownBlock = some k → ¬ D k) (h2 : Step D W W' p d') : St w0 W' p d' rows := by
  obtain ⟨D', hd', hk, hD'⟩ := h2
  refine ⟨D', hd', hb.trans (hk.below hD hb.size), fun k hk' => (hD' k hk').elim (hD k) fun h => Nat.le_trans hb.size h, fun r hrr => ?_⟩
  obtain ⟨ho, hn⟩ := hr r hrr
  exact ⟨ho.keep hk.size fun k hk' => hk.block k (ho.lt k hk').2 (hn k hk'), fun k hk' hd => (hD' k hd).elim (hn k hk') fun h => by have := (ho.lt k hk').2; omega⟩
theorem flush_st {w0 W : World} {p : Value} {d d' : Dk} {rows : List (Value × List UInt8)} (h : St w0 W p d rows) {e0 : Int} (he : d.flush = (e0, d')) (hn : d.n < 4611686018427387904) :
    Calls Tryz.prog 45 #[p] W fun e w' => e = .returned (.int .i64 e0) ∧ St w0 w' p d' rows := by
  obtain ⟨D, hd, hb, hD, hr⟩ := h
  have := flush_at hd hn
  rw [he] at this
  exact this.mono fun e w' ⟨h1, h2⟩ => ⟨h1, St.of_step hb hD hr h2⟩
theorem arm_st {w0 W : World} {p : Value} {d d' : Dk} {rows : List (Value × List UInt8)} (h : St w0 W p d rows) (at_ : Int) {v : Value} {l : List Int} (hk : KeepsAt W v l) (hm : l.length ≤ 4294967296) (he : d.arm at_ l = d') :
    Calls Tryz.prog 7 #[p, .agg #[.int .i64 at_, v]] W fun e w' => e = .returned (.tuple #[]) ∧ St w0 w' p d' rows := by
  obtain ⟨D, hd, hb, hD, hr⟩ := h
  subst he
  exact (arm_at hd at_ v l hk hm).mono fun e w' ⟨h1, h2⟩ => ⟨h1, St.of_step hb hD hr h2⟩
theorem restart_st {w0 W : World} {p : Value} {d d' : Dk} {rows : List (Value × List UInt8)} (h : St w0 W p d rows) (he : d.restart = d') :
    Calls Tryz.prog 11 #[p] W fun e w' => e = .returned (.tuple #[]) ∧ St w0 w' p d' rows := by
  obtain ⟨D, hd, hb, hD, hr⟩ := h
  subst he
  exact (restart_at hd).mono fun e w' ⟨h1, h2⟩ => ⟨h1, St.of_step hb hD hr h2⟩
theorem read_st {w0 W : World} {p : Value} {d : Dk} {rows : List (Value × List UInt8)} (h : St w0 W p d rows) (i : Int) {l : List UInt8} (he : d.read i = l) :
    Calls Tryz.prog 74 #[p, .int .i64 i] W fun e w' => ∃ v, e = .returned v ∧ St w0 w' p d ((v, l) :: rows) := by
  have hh := h
  obtain ⟨D, hd, hb, hD, hr⟩ := h
  subst he
  exact (read_at hd i).mono fun e w' ⟨v, h1, h2, h3⟩ => ⟨v, h1, hh.more h3 h2⟩
theorem down_st {w0 W : World} {p : Value} {d : Dk} {rows : List (Value × List UInt8)} (h : St w0 W p d rows) {b : Bool} (he : d.down = b) :
    Calls Tryz.prog 67 #[p] W fun e w' => e = .returned (.bool b) ∧ W = w' := by
  obtain ⟨D, hd, -⟩ := h
  subst he
  exact down_at hd
end Go.Proofs.YtilplpjdbkipoaaGreatDoor
