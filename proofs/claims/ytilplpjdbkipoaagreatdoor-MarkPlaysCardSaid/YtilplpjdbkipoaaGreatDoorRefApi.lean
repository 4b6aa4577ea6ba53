/-
  Proved: what the calls of the statements' own disk answer and make of it, by its model, and what they leave as it was. Conditions: the disk lies in memory; what is handed in can be read; so many writes and operations were not yet that their number would wrap.
-/
import Derived.Test.YtilplpjdbkipoaaGreatDoorRefNew
namespace Go.Proofs.YtilplpjdbkipoaaGreatDoor
open Go Go.RowKit DiskMath NetMem SpanMath

section
variable {w0 w : World} {D : Nat → Prop} {p : Value} {d : Dk}

theorem rblk_nil {g : Nat} {sv pv : Value} {sb : List Nat} {ps : Pend} {k : Nat} (h : RBlk g sv (.slice none 0 0) sb [] k) : RBlk g sv pv sb ps k := by
  rcases h with h | h | h | h | ⟨x, hx, -⟩
  · exact .inl h
  · exact .inr (.inl h)
  · exact nil_own h
  · exact .inr (.inr (.inr (.inl h)))
  · exact (List.not_mem_nil hx).elim

theorem rwrite_at (h : RefAt w0 w D p d) (i : Int) (v : Value) (l : List UInt8) (hr : Row w v l) (hn : d.n < 4611686018427387904) (hp : d.p.length < 4294967296) :
    Calls Tryz.prog 51 #[p, .int .i64 i, v] w fun e w' => e = .returned (.int .i64 (d.write i l).1) ∧ RStep w0 D w w' p (d.write i l).2 := by
  have hA := h
  obtain ⟨g, sv, pv, sb, ps, rfl, hm, hw, hD, hlt, hb0⟩ := h
  have hw2 := wf_write hw i l
  have hge : ∀ k, (k = g ∨ k ∈ sb) → w0.heap.size ≤ k := fun k hk => (hlt k (hD k (hk.elim .inl fun h => .inr (.inr (.inr (.inl h)))))).1
  have hK : ∀ k, (k = g ∨ k ∈ sb) → D k := fun k hk => hD k (hk.elim .inl fun h => .inr (.inr (.inr (.inl h))))
  unfold Dk.write at hw2 ⊢
  obtain ⟨q, c, rfl, hlc, -, -⟩ := id hr
  by_cases hd : d.down = true
  · rw [if_pos hd]
    exact (rwrite_down hm i _ hd).mono fun e w' ⟨he, hw⟩ => by subst hw; exact ⟨he, RStep.same hA⟩
  · rw [if_neg hd] at hw2 ⊢
    have hd' : d.down = false := by simpa using hd
    by_cases hl : l.length ≠ 16
    · rw [if_pos hl]
      exact (rwrite_long hm i q l.length c hd' hl).mono fun e w' ⟨he, hw⟩ => by subst hw; exact ⟨he, RStep.same hA⟩
    · rw [if_neg hl] at hw2 ⊢
      have hl' : l.length = 16 := by omega
      rw [hl'] at hr ⊢
      by_cases hi : d.has i = false
      · rw [if_pos hi]
        exact (rwrite_none hm i q c hd' hi).mono fun e w' ⟨he, hw⟩ => by subst hw; exact ⟨he, RStep.same hA⟩
      · rw [if_neg hi] at hw2 ⊢
        have hi' : d.has i = true := by simpa using hi
        by_cases hh : d.hits = true
        · rw [if_pos hh] at hw2 ⊢
          exact (rwrite_hit hm i q c hd' hi' hh hb0 hge).mono fun e w' ⟨he, h1, h2⟩ => ⟨he, RStep.of hD hlt hb0 h1 hw2 h2 hK fun k hk => .inl (rblk_nil hk)⟩
        · rw [if_neg hh] at hw2 ⊢
          have hh' : d.hits = false := by simpa using hh
          have hb : 0 ≤ i ∧ i < (d.s.length : Int) := by simpa [Dk.has] using hi'
          obtain ⟨j, rfl⟩ := Int.eq_ofNat_of_zero_le hb.1
          rw [Int.toNat_natCast] at hw2 ⊢
          have hpl : ps.length < 4294967296 := by have := hm.pok; rw [this, List.length_map] at hp; exact hp
          refine (rwrite_go hm j q c l hd' (by omega) hh' hr hn hpl).mono fun e w' ⟨he, q2, cap, v, h1, h2, h3, h4⟩ => ⟨he, RStep.of hD hlt hb0 h1 hw2 h2 (fun k hk => hD k (hk.elim .inl fun h => .inr (.inr (.inl h)))) fun k hk => ?_⟩
          rcases hk with h | h | h | h | ⟨x, hx, h⟩
          · exact .inl (.inl h)
          · exact .inl (.inr (.inl h))
          · have : q2 = k := by simpa [Value.ownBlock] using h
            subst this
            exact h3.imp (fun h => .inr (.inr (.inl h))) id
          · exact .inl (.inr (.inr (.inr (.inl h))))
          · rcases List.mem_append.1 hx with hx | hx
            · exact .inl (.inr (.inr (.inr (.inr ⟨x, hx, h⟩))))
            · obtain rfl : x = (v, j, l) := by simpa using hx
              exact .inr (h4 k h)
theorem rflush_at (h : RefAt w0 w D p d) (hn : d.n < 4611686018427387904) :
    Calls Tryz.prog 52 #[p] w fun e w' => e = .returned (.int .i64 d.flush.1) ∧ RStep w0 D w w' p d.flush.2 := by
  have hA := h
  obtain ⟨g, sv, pv, sb, ps, rfl, hm, hw, hD, hlt, hb0⟩ := h
  have hw2 := wf_flush hw
  have hge : ∀ k, (k = g ∨ k ∈ sb) → w0.heap.size ≤ k := fun k hk => (hlt k (hD k (hk.elim .inl fun h => .inr (.inr (.inr (.inl h)))))).1
  have hK : ∀ k, (k = g ∨ k ∈ sb) → D k := fun k hk => hD k (hk.elim .inl fun h => .inr (.inr (.inr (.inl h))))
  unfold Dk.flush at hw2 ⊢
  by_cases hd : d.down = true
  · rw [if_pos hd]
    exact (rflush_down hm hd).mono fun e w' ⟨he, hw⟩ => by subst hw; exact ⟨he, RStep.same hA⟩
  · rw [if_neg hd] at hw2 ⊢
    have hd' : d.down = false := by simpa using hd
    by_cases hh : d.hits = true
    · rw [if_pos hh] at hw2 ⊢
      exact (rflush_hit hm hd' hh hb0 hge).mono fun e w' ⟨he, h1, h2⟩ => ⟨he, RStep.of hD hlt hb0 h1 hw2 h2 hK fun k hk => .inl (rblk_nil hk)⟩
    · rw [if_neg hh] at hw2 ⊢
      have hh' : d.hits = false := by simpa using hh
      exact (rflush_go hm hd' hh' hn).mono fun e w' ⟨he, h1, h2⟩ => ⟨he, RStep.of hD hlt hb0 h1 hw2 h2 hK fun k hk => .inl (rblk_nil hk)⟩
theorem rarm_at (h : RefAt w0 w D p d) (at_ : Int) (v : Value) (l : List Int) (hk : KeepsAt w0 v l) :
    Calls Tryz.prog 8 #[p, .agg #[.int .i64 at_, v]] w fun e w' => e = .returned (.tuple #[]) ∧ RStep w0 D w w' p (d.arm at_ l) := by
  obtain ⟨g, sv, pv, sb, ps, rfl, hm, hw, hD, hlt, hb0⟩ := h
  exact (rarm_m hm at_ v l hk).mono fun e w' ⟨he, h1, h2⟩ => ⟨he, RStep.of hD hlt hb0 h1 (wf_arm hw at_ l) h2 (fun k hk => hD k (.inl hk)) fun k hk => .inl hk⟩
theorem rrestart_at (h : RefAt w0 w D p d) :
    Calls Tryz.prog 12 #[p] w fun e w' => e = .returned (.tuple #[]) ∧ RStep w0 D w w' p d.restart := by
  obtain ⟨g, sv, pv, sb, ps, rfl, hm, hw, hD, hlt, hb0⟩ := h
  exact (rrestart_m hm).mono fun e w' ⟨he, h1, h2⟩ => ⟨he, RStep.of hD hlt hb0 h1 (wf_restart hw) h2 (fun k hk => hD k (.inl hk)) fun k hk => .inl (rblk_nil hk)⟩
theorem rread_at (h : RefAt w0 w D p d) (i : Int) :
    Calls Tryz.prog 55 #[p, .int .i64 i] w fun e w' => ∃ v, e = .returned v ∧ NetMem.Own w' w.heap.size v (d.read i) ∧ Below w.heap.size w w' := by
  obtain ⟨g, sv, pv, sb, ps, rfl, hm, hw, hD, hlt, hb0⟩ := h
  by_cases hi : d.has i = true
  · have hb : 0 ≤ i ∧ i < (d.s.length : Int) := by simpa [Dk.has] using hi
    obtain ⟨j, rfl⟩ := Int.eq_ofNat_of_zero_le hb.1
    have hj : j < d.s.length := by omega
    have := rread_in hm j hj
    rw [← hw.last j hj] at this
    rw [read_la d j hj]
    exact this
  · have hi' : d.has i = false := by simpa using hi
    have hr : d.read i = [] := by unfold Dk.read; rw [hi']; rfl
    rw [hr]
    exact (rread_out hm i hi').mono fun e w' ⟨he, hw⟩ => by subst hw; exact ⟨_, he, NetMem.Own.nil _ _, Below.refl _ _⟩
/-- The sectors' slice, as a caller reads it. -/
theorem RefAt.sectors (h : RefAt w0 w D p d) : ∃ g a c, p = .pointer (some ⟨g, 0, none⟩) ∧ w.cell? ⟨g, 0, none⟩ = some (.slice a d.s.length c) := by
  obtain ⟨g, sv, pv, sb, ps, rfl, hm, -⟩ := h
  obtain ⟨at_, lv, ar, -, -, c0, -⟩ := hm.cells
  obtain ⟨asv, cs, hsv, -, -, -⟩ := hm.sv_at
  rw [hsv, hm.slen] at c0
  exact ⟨g, asv, cs, rfl, c0⟩
end
end Go.Proofs.YtilplpjdbkipoaaGreatDoor
