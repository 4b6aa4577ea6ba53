/-
  Proved: the statements' own disk: Read: a sector's bytes are new memory. Conditions: the disk lies in memory.
-/
import Derived.Test.YtffjdpkgcgdfdaaRefWrite
namespace Go.Proofs.Ytffjdpkgcgdfdaa
open Go Go.RowKit DiskMath NetMem SpanMath

section
variable {w0 w : World} {g : Nat} {sv pv : Value} {sb : List Nat} {ps : Pend} {d : Dk}

theorem rread_out (h : RefM w0 w g sv pv sb ps d) (i : Int) (hi : d.has i = false) :
    Calls Try.prog 46 #[.pointer (some ⟨g, 0, none⟩), .int .i64 i] w fun e w' => e = .returned (.slice none 0 0) ∧ w = w' := by
  obtain ⟨at_, lv, ar, -, -, c0, -⟩ := h.cells
  obtain ⟨asv, cs, hsv, -, -, -⟩ := h.sv_at
  rw [hsv, h.slen] at c0
  have hh := has_false hi
  obtain ⟨N, hN⟩ : ∃ N, N = d.s.length := ⟨_, rfl⟩
  rw [← hN] at c0 hh
  clear h hi hN hsv
  rcases hh with h1 | ⟨h1, h2⟩
  all_goals
    go_enter Try.func46, Try.ntmps46
    go_wp2_with fail
    go_ret
    exact ⟨rfl, rfl⟩

def RelRR (w : World) (ps : Pend) (i : Nat) (x0 : List UInt8) (v idx : Value) (wr : World) : Prop :=
  ∃ (k : Nat) (q : Option Addr) (c : Nat), k ≤ ps.length ∧ v = .slice q 16 c ∧ idx = .int .i64 (k : Int) ∧ Row w (.slice q 16 c) (lastOf ((ps.map (·.2)).take k) i x0) ∧ w = wr

set_option maxHeartbeats 4000000 in
set_option maxRecDepth 100000 in
theorem rread_in (h : RefM w0 w g sv pv sb ps d) (i : Nat) (hi : i < d.s.length) :
    Calls Try.prog 46 #[.pointer (some ⟨g, 0, none⟩), .int .i64 (i : Int)] w fun e w' => ∃ v, e = .returned v ∧ NetMem.Own w' w.heap.size v (lastOf d.p i (fl d i)) ∧ Below w.heap.size w w' := by
  obtain ⟨at_, lv, ar, -, -, c0, c1, -⟩ := h.cells
  obtain ⟨asv, cs, hsv, hs1, hs2, hs⟩ := h.sv_at
  obtain ⟨ap, cp, hpv, hp1, hp2, hp⟩ := h.pv_at
  have hi' : i < sb.length := by rw [h.slen]; exact hi
  obtain ⟨s, hss, hsg, hs0, -⟩ := hs i hi'
  obtain ⟨hr0, -, hl0⟩ := h.sec i hi'
  have hrow0 : Row w (.slice (some ⟨sb[i], 0, none⟩) 16 16) (fl d i) := by
    have := range_row hr0 16 (by omega) (by omega)
    rwa [hl0] at this
  have hpok := h.pok
  have hrows : ∀ k (hk : k < ps.length), ∃ q c, ps[k].1 = .slice q 16 c ∧ Row w (.slice q 16 c) ps[k].2.2 := fun k hk => by
    obtain ⟨kk, cc, hv, h1, h2, -, -, -, -, -, hr⟩ := h.row_at k hk
    obtain ⟨-, -, hl⟩ := h.pown ps[k] (List.getElem_mem hk)
    refine ⟨_, cc, hv, ⟨_, cc, by rw [hl], by omega, h2, fun _ => ⟨kk, 0, rfl, fun j hj => ?_⟩⟩⟩
    have := hr j _ (bc_at _ j hj)
    exact this
  obtain ⟨x0, hx0⟩ : ∃ x0, x0 = fl d i := ⟨_, rfl⟩
  rw [← hx0] at hrow0 ⊢
  rw [hpok]
  obtain ⟨sbi, hsbi⟩ : ∃ z, z = sb[i] := ⟨_, rfl⟩
  rw [← hsbi] at hs0 hrow0
  have HP := Lib.hid (And.intro hp (And.intro hrows hrow0))
  subst hsv hpv hss
  obtain ⟨N, hN⟩ : ∃ N, N = sb.length := ⟨_, rfl⟩
  rw [← hN] at c0 hi'
  have i0 : (0 : Int) ≤ (i : Int) := by omega
  have i1 : (i : Int) < (N : Int) := by omega
  clear h hs hr0 hl0 hrow0 hpok hrows hx0 hsbi hN hp hi hi' hs1 hs2 hsg
  unfold maxLen at hp2
  go_enter Try.func46, Try.ntmps46
  go_wp2_with fail
  go_loopw [5, 6] (fun v idx wr => RelRR w ps i x0 v idx wr) (fun _ idx _ => ps.length - (intOf idx).toNat)
  case atStart => exact ⟨0, _, _, by omega, rfl, rfl, HP.out.2.2, rfl⟩
  case round =>
    obtain ⟨k, q, c, hk, rfl, rfl, hrow, rfl⟩ := hrel
    by_cases hlt : k < ps.length
    · obtain ⟨qq, hqq, -, hq0, hq1, -⟩ := HP.out.1 k hlt
      obtain ⟨q', c', hv', hrow'⟩ := HP.out.2.1 k hlt
      have htk : lastOf ((ps.map (·.2)).take (k + 1)) i x0 = if ps[k].2.1 = i then ps[k].2.2 else lastOf ((ps.map (·.2)).take k) i x0 := by
        have hkm : k < (ps.map (·.2)).length := by rw [List.length_map]; exact hlt
        have := lastOf_take (ps.map (·.2)) k i x0 hkm
        rw [List.getElem_map] at this
        exact this
      rw [hv'] at hq1
      subst hqq
      obtain ⟨z, hz⟩ : ∃ z : Nat, z = ps[k].2.1 := ⟨_, rfl⟩
      rw [← hz] at hq0 htk
      have HT := Lib.hid (And.intro htk (And.intro hrow hrow'))
      have k1 : (k : Int) < (ps.length : Int) := by omega
      clear htk hrow hrow' hv'
      by_cases hzi : z = i
      · have hb : ((z : Int) == (i : Int)) = true := by simp [hzi]
        have HE := Lib.hid hzi
        clear hz hzi
        go_wp2_with fail
        refine ⟨⟨k + 1, q', c', by omega, rfl, by go_num, ?_, rfl⟩, by simp [intOf]; omega⟩
        rw [HT.out.1, if_pos HE.out]
        exact HT.out.2.2
      · have hb : ((z : Int) == (i : Int)) = false := by simp; omega
        have HE := Lib.hid hzi
        clear hz hzi
        go_wp2_with fail
        refine ⟨⟨k + 1, q, c, by omega, rfl, by go_num, ?_, rfl⟩, by simp [intOf]; omega⟩
        rw [HT.out.1, if_neg HE.out]
        exact HT.out.2.1
    · obtain rfl : k = ps.length := by omega
      have hall : (ps.map (·.2)).take ps.length = ps.map (·.2) := List.take_of_length_le (by rw [List.length_map]; omega)
      rw [hall] at hrow
      obtain ⟨B, hB⟩ : ∃ B, B = lastOf (ps.map (·.2)) i x0 := ⟨_, rfl⟩
      rw [← hB] at hrow
      have HBB := Lib.hid hB
      have hBl : B.length = 16 := (Row.nums hrow).1.symm
      obtain ⟨i0', hi, hz0, hz1, hz2⟩ := info_parts info5
      have ho1 : NetMem.Own (w.alloc (.cells #[] 5)) w.heap.size (.slice (some ⟨w.heap.size, 0, none⟩) 0 0) [] := Own.made w 5 [] 0 (by simp) (by simp [maxLen]) #[] rfl (fun j h => by simp at h) _ (Nat.le_refl _)
      have hb1 : Below w.heap.size w (w.alloc (.cells #[] 5)) := (Below.refl _ w).alloc (Nat.le_refl _) _
      have hsrc := Row.src (P := Try.prog) (hrow.below hb1) Try.underlying27
      have HO := Lib.hid (And.intro ho1 (And.intro hb1 (And.intro hsrc hBl)))
      clear ho1 hb1 hsrc hrow hBl hB hall hlt hk
      go_wp2_with (at_builtin; refine wpList_append_bytes _ rfl _ _ 27 27 rfl 5 i0' Try.underlying27 hi hz0 hz1 hz2 w.heap.size _ _ rfl HO.out.1 _ B rfl HO.out.2.2.1 ?lim ?hB ?_)
      case lim => rw [HO.out.2.2.2]; simp
      case hB => exact HO.out.2.1.size
      intro v' w' ho3 hg3 hnil
      have HB := Lib.hid (And.intro ho3 (HO.out.2.1.grown hg3 HO.out.2.1.size (fun k hk => by simp [Value.ownBlock] at hk; omega)))
      clear ho3 hg3 hnil
      go_wp2_with fail
      go_ret
      exact ⟨_, rfl, by rw [← HBB.out]; simpa using HB.out.1, HB.out.2⟩
end
end Go.Proofs.Ytffjdpkgcgdfdaa
