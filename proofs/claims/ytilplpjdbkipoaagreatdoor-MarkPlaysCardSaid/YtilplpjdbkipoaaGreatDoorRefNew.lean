/-
  Proved: the statements' own disk: New: a disk of so many sectors, all of them 0. No conditions but the number of sectors.
-/
import Derived.Test.YtilplpjdbkipoaaGreatDoorRefCalls
import Derived.Test.YtilplpjdbkipoaaGreatDoorSpanPut
namespace Go.Proofs.YtilplpjdbkipoaaGreatDoor
open Go Go.RowKit DiskMath NetMem SpanMath

theorem infoSl : (Tryz.prog.info? 56).map (fun i => (i.zero, i.size, i.bytes)) = some (some (.slice none 0 0), 1, 24) := by kernel_rfl
abbrev zeroObj : Obj := .cells #[.int .u8 0, .int .u8 0, .int .u8 0, .int .u8 0, .int .u8 0, .int .u8 0, .int .u8 0, .int .u8 0, .int .u8 0, .int .u8 0, .int .u8 0, .int .u8 0, .int .u8 0, .int .u8 0, .int .u8 0, .int .u8 0] 5

theorem zeroCells_eq : (#[.int .u8 0, .int .u8 0, .int .u8 0, .int .u8 0, .int .u8 0, .int .u8 0, .int .u8 0, .int .u8 0, .int .u8 0, .int .u8 0, .int .u8 0, .int .u8 0, .int .u8 0, .int .u8 0, .int .u8 0, .int .u8 0] : Array Value) = (Lib.byteCells zeroB).toArray := rfl
theorem fl_new (n i : Nat) (h : i < n) : fl (Dk.new n) i = zeroB := by
  unfold fl Dk.new
  simp [h, zeroB]

/-- One sector more. -/
theorem RefM.more {w0 w w' : World} {g : Nat} {sv : Value} {sb : List Nat} {n : Nat} (h : RefM w0 w g sv (.slice none 0 0) sb [] (Dk.new n)) (hn : n + 1 ≤ 4000) (nb q cap : Nat)
    (hown : w'.ownsRow 0 56 1 (.slice (some ⟨q, 0, none⟩) (n + 1) cap) (n + 1) (svals sb ++ [.slice (some ⟨nb, 0, none⟩) 16 16]))
    (hk : ∀ k, k < w.heap.size → sv.ownBlock ≠ some k → w'.heap[k]? = w.heap[k]?) (hsz : w.heap.size ≤ w'.heap.size) (hat : sv.ownBlock = some q ∨ w.heap.size ≤ q) (hnb : w.heap.size ≤ nb) (hnq : nb ≠ q) (hblk : w'.heap[nb]? = some zeroObj) :
    RefM w0 (w'.setCell ⟨g, 0, none⟩ (.slice (some ⟨q, 0, none⟩) (n + 1) cap)) g (.slice (some ⟨q, 0, none⟩) (n + 1) cap) (.slice none 0 0) (sb ++ [nb]) [] (Dk.new (n + 1)) := by
  have hg := h.glt
  have hset : ∀ (u : Value) k, k ≠ g → (w'.setCell ⟨g, 0, none⟩ u).heap[k]? = w'.heap[k]? := fun u k hk => heap_setCell_ne w' ⟨g, 0, none⟩ u k hk
  have hss : ∀ u : Value, (w'.setCell ⟨g, 0, none⟩ u).heap.size = w'.heap.size := fun u => by simp [World.setCell]
  have hq2 : ∀ k, k < w.heap.size → sv.ownBlock ≠ some k → k ≠ q := fun k hk hn e => by
    subst e
    rcases hat with h | h
    · exact hn h
    · omega
  have hqb : ∀ k, (Value.slice (some ⟨q, 0, none⟩) (n + 1) cap).ownBlock = some k → k = q := fun k hk => by
    have : q = k := by simpa [Value.ownBlock] using hk
    exact this.symm
  have hsl : sb.length = n := by have := h.slen; simpa [Dk.new] using this
  have hnbl : nb < w'.heap.size := (Array.getElem?_eq_some_iff.1 hblk).1
  have hsb : ∀ b ∈ sb, (w'.setCell ⟨g, 0, none⟩ (.slice (some ⟨q, 0, none⟩) (n + 1) cap)).heap[b]? = w.heap[b]? := fun b hb => by
    obtain ⟨g1, g2, g3, g4⟩ := h.gs b hb
    exact (hset _ _ g1).trans (hk _ g4 g2)
  have hnbs : (w'.setCell ⟨g, 0, none⟩ (.slice (some ⟨q, 0, none⟩) (n + 1) cap)).heap[nb]? = some zeroObj := (hset _ nb (by omega)).trans hblk
  exact
  { head := by
      obtain ⟨at_, lv, ar, h1, h2⟩ := h.head
      refine ⟨at_, lv, ar, ?_, h2⟩
      rw [heap_set ((hk g hg h.sg).trans h1)]
      rfl
    srow := by
      have e : (sb ++ [nb]).length = n + 1 := by simp [hsl]
      rw [e]
      have e2 : svals (sb ++ [nb]) = svals sb ++ [.slice (some ⟨nb, 0, none⟩) 16 16] := by simp [svals]
      rw [e2]
      exact ownsRow_block hown fun k hk' => hset _ k fun e => hq2 g hg h.sg (by rw [← hqb k hk', e])
    slen := by simp [hsl, Dk.new]
    smax := by simp [Dk.new]; omega
    sec := fun j hj => by
      rw [List.length_append, List.length_singleton] at hj
      rw [fl_new (n + 1) j (by omega)]
      by_cases e : j < sb.length
      · rw [List.getElem_append_left e]
        have hs := h.sec j e
        rw [fl_new n j (by omega)] at hs
        exact ⟨rangeAt_block hs.1 (hsb _ (List.getElem_mem e)), there_block hs.2.1 (hsb _ (List.getElem_mem e)), rfl⟩
      · have hj' : j = sb.length := by omega
        subst hj'
        rw [List.getElem_append_right (Nat.le_refl _)]
        simp only [Nat.sub_self, List.getElem_cons_zero]
        have hc : ∀ i, (w'.setCell ⟨g, 0, none⟩ (.slice (some ⟨q, 0, none⟩) (n + 1) cap)).cell? ⟨nb, i, none⟩ = (Lib.byteCells zeroB)[i]? := fun i => by
          rw [cell_of_row _ nb i _ _ _ hnbs, zeroCells_eq]
          simp
        refine ⟨fun i v hv => by rw [hc, Nat.zero_add]; exact hv, fun i hi => ⟨?_, ?_⟩, rfl⟩
        · rw [hc, Nat.zero_add, bc_at zeroB i hi]; rfl
        · simp [World.frozen?, hnbs]
    prow := World.ownsRow_nil _ _ _ _
    pok := rfl
    pown := fun x hx => (List.not_mem_nil hx).elim
    nd := fun i j hi hj e => by
      rw [List.length_append, List.length_singleton] at hi hj
      have hlt : ∀ k (hk : k < sb.length), sb[k] < w.heap.size := fun k hk => (h.gs _ (List.getElem_mem hk)).2.2.2
      by_cases e1 : i < sb.length
      · by_cases e2 : j < sb.length
        · rw [List.getElem_append_left e1, List.getElem_append_left e2] at e
          exact h.nd i j e1 e2 e
        · have : j = sb.length := by omega
          subst this
          rw [List.getElem_append_left e1, List.getElem_append_right (Nat.le_refl _)] at e
          simp only [Nat.sub_self, List.getElem_cons_zero] at e
          have := hlt i e1
          omega
      · have : i = sb.length := by omega
        subst this
        by_cases e2 : j < sb.length
        · rw [List.getElem_append_right (Nat.le_refl _), List.getElem_append_left e2] at e
          simp only [Nat.sub_self, List.getElem_cons_zero] at e
          have := hlt j e2
          omega
        · omega
    gs := fun b hb => by
      rcases List.mem_append.1 hb with hb | hb
      · obtain ⟨g1, g2, g3, g4⟩ := h.gs b hb
        exact ⟨g1, fun e => hq2 b g4 g2 (hqb b e), by simp [Value.ownBlock], by rw [hss]; omega⟩
      · obtain rfl : b = nb := by simpa using hb
        exact ⟨by omega, fun e => hnq (hqb b e), by simp [Value.ownBlock], by rw [hss]; omega⟩
    sg := fun e => hq2 g hg h.sg (hqb g e)
    pg := by simp [Value.ownBlock]
    sp := fun k _ => by simp [Value.ownBlock]
    qo := fun x hx => (List.not_mem_nil hx).elim }

def RelRN (w0 w : World) (g n : Nat) (i : Value) (wr : World) : Prop :=
  ∃ (k : Nat) (sv : Value) (sb : List Nat), k ≤ n ∧ i = .int .i64 (k : Int) ∧ RefM w0 wr g sv (.slice none 0 0) sb [] (Dk.new k) ∧ Below w.heap.size w wr ∧ ∀ j, RBlk g sv (.slice none 0 0) sb [] j → w.heap.size ≤ j

theorem new_zero (w0 w : World) : RefM w0 (w.alloc (.cells #[.slice none 0 0, .slice none 0 0, .int .i64 0, .slice none 0 0, .int .i64 0, .bool false, .bool false] 55)) w.heap.size (.slice none 0 0) (.slice none 0 0) [] [] (Dk.new 0) :=
  { head := ⟨0, .slice none 0 0, false, heap_alloc_new w _, [], fun _ => ⟨rfl, fun h => by cases h⟩, .inl ⟨rfl, rfl⟩⟩
    srow := World.ownsRow_nil _ _ _ _
    slen := rfl
    smax := by simp [Dk.new]
    sec := fun i hi => by simp at hi
    prow := World.ownsRow_nil _ _ _ _
    pok := rfl
    pown := fun x hx => (List.not_mem_nil hx).elim
    nd := fun i j hi => by simp at hi
    gs := fun b hb => (List.not_mem_nil hb).elim
    sg := by simp [Value.ownBlock]
    pg := by simp [Value.ownBlock]
    sp := fun k _ => by simp [Value.ownBlock]
    qo := fun x hx => (List.not_mem_nil hx).elim }

set_option maxHeartbeats 8000000 in
set_option maxRecDepth 100000 in
theorem rnew_at (w0 : World) (n : Nat) (hn : n ≤ 4000) (w : World) (hb0 : Below w0.heap.size w0 w) :
    Calls Tryz.prog 5 #[.int .i64 (n : Int)] w fun e w' => ∃ g D, e = .returned (.pointer (some ⟨g, 0, none⟩)) ∧ RefAt w0 w' D (.pointer (some ⟨g, 0, none⟩)) (Dk.new n) ∧ Below w.heap.size w w' ∧ ∀ k, D k → w.heap.size ≤ k := by
  have HB0 := Lib.hid hb0
  clear hb0
  have hn0 : (0 : Int) ≤ (n : Int) := by omega
  have hn1 : (n : Int) ≤ 4000 := by omega
  obtain ⟨iS, hiS, zS, sS, bS⟩ := info_parts infoSl
  have HI := Lib.hid (And.intro hiS (And.intro zS (And.intro sS bS)))
  have hmk := made16
  clear hiS zS sS bS hn
  go_enter Tryz.func5, Tryz.ntmps5
  go_wp2_with fail
  go_loopw [4] (fun i wr => RelRN w0 w w.heap.size n i wr) (fun i _ => n - (intOf i).toNat)
  case atStart => exact ⟨0, _, _, by omega, rfl, new_zero w0 w, (Below.refl _ w).alloc (Nat.le_refl _) _, fun j hj => by
    rcases hj with rfl | hj | hj | hj | ⟨x, hx, -⟩
    · exact Nat.le_refl _
    · exact nil_own hj
    · exact nil_own hj
    · exact (List.not_mem_nil hj).elim
    · exact (List.not_mem_nil hx).elim⟩
  case round =>
    obtain ⟨k, sv, sb, hk, rfl, hrk, hb, hge⟩ := hrel
    by_cases hlt : k < n
    · obtain ⟨at1, lv1, ar1, -, -, c0, -, -, -, -, -, -, cf⟩ := hrk.cells
      have f0 := cf 0
      have hgl := hrk.glt
      have hsl : sb.length = k := by have := hrk.slen; simpa [Dk.new] using this
      have k1 : (k : Int) < (n : Int) := by omega
      have hk1 : ∀ o1, (wr.alloc o1).cell? ⟨w.heap.size, 0, none⟩ = some sv := fun o1 => (World.cell?_alloc_lt _ _ _ hgl).trans c0
      have hk2 : ∀ o1 o2, ((wr.alloc o1).alloc o2).cell? ⟨w.heap.size, 0, none⟩ = some sv := fun o1 o2 => (World.cell?_alloc_lt _ _ _ (by simp; omega)).trans (hk1 o1)
      have HO := Lib.hid (show ∀ o1 o2, (((wr.alloc o1).alloc o2).drew).ownsRow 0 56 1 sv sb.length (svals sb) from fun o1 o2 => (hrk.srow.alloc o1).alloc o2)
      rw [hsl] at HO
      have HN := Lib.hid (show ∀ o1 j u, ([.slice (some ⟨wr.heap.size, 0, none⟩) 16 16] : List Value)[j]? = some u → (((wr.alloc o1).alloc (.cells #[.slice (some ⟨wr.heap.size, 0, none⟩) 16 16] 56)).drew).cell? ((⟨wr.heap.size + 1, 0, none⟩ : Addr).add j) = some u from fun o1 j u hu => by
        rw [Lib.add_plain, Nat.zero_add, show wr.heap.size + 1 = (wr.alloc o1).heap.size by simp]
        exact (new_cell (wr.alloc o1) #[.slice (some ⟨wr.heap.size, 0, none⟩) 16 16] 56 j).trans (by simpa using hu))
      have HG := Lib.hid (show ∀ o1 o2 w1, (((wr.alloc o1).alloc o2).drew).grownBy w1 sv.ownBlock → w1.cell? ⟨w.heap.size, 0, none⟩ = some sv ∧ w1.frozen? ⟨w.heap.size, 0, none⟩ = false from fun o1 o2 w1 hgr => by
        have hne : some w.heap.size ≠ sv.ownBlock := Ne.symm hrk.sg
        have hlt : w.heap.size < ((wr.alloc o1).alloc o2).drew.heap.size := by show w.heap.size < ((wr.alloc o1).alloc o2).heap.size; simp; omega
        refine ⟨(hgr.cell_far ⟨w.heap.size, 0, none⟩ hlt hne).trans (hk2 o1 o2), (hgr.frozen_far ⟨w.heap.size, 0, none⟩ hlt hne).trans ?_⟩
        have h1 : ((wr.alloc o1).alloc o2).frozen? ⟨w.heap.size, 0, none⟩ = wr.frozen? ⟨w.heap.size, 0, none⟩ := World.frozen?_of_block (by
          rw [Below.heap_alloc _ _ _ (by simp; omega), Below.heap_alloc _ _ _ hgl])
        exact h1.trans f0)
      have HX := Lib.hid (And.intro hrk (And.intro hb (And.intro hge hsl)))
      clear hrk hb hge hsl hgl cf f0
      go_wp2_with fail
      go_region_law (refine step_append_lies _ (by rfl) (.tmp 22) (.tmp 24) 52 (by rfl) 0 56 iS (.slice none 0 0) 1 24 Tryz.underlying52 HI.out.1 HI.out.2.1 HI.out.2.2.1 HI.out.2.2.2 (by rfl) (by decide) sv k (svals sb) (by rfl) (HO.out _ _) ⟨wr.heap.size + 1, 0, none⟩ 1 1 [.slice (some ⟨wr.heap.size, 0, none⟩) 16 16] (by rfl) (by rfl) (HN.out _) (by intro u hu; simp only [List.mem_cons, List.not_mem_nil, or_false] at hu; subst hu; rfl) (by decide) (by unfold maxLen; omega) (by omega) (by omega) (wr.heap.size + 2) (by simp) ?_; intro q cap w1 hown hgrow hat hlt'; have hx1 := (HG.out _ _ w1 hgrow).1; have hx2 := (HG.out _ _ w1 hgrow).2; have HB := Lib.hid (And.intro hown (And.intro hgrow (And.intro hat hlt'))); clear hown hgrow hat hlt')
      all_goals
        have hmore : ∃ sb', RefM w0 (w1.setCell ⟨w.heap.size, 0, none⟩ (.slice (some ⟨q, 0, none⟩) (k + 1) cap)) w.heap.size (.slice (some ⟨q, 0, none⟩) (k + 1) cap) (.slice none 0 0) sb' [] (Dk.new (k + 1)) ∧ Below w.heap.size w (w1.setCell ⟨w.heap.size, 0, none⟩ (.slice (some ⟨q, 0, none⟩) (k + 1) cap)) ∧
            ∀ j, RBlk w.heap.size (.slice (some ⟨q, 0, none⟩) (k + 1) cap) (.slice none 0 0) sb' [] j → w.heap.size ≤ j := by
          obtain ⟨hown, hgrow, hat, hlt'⟩ := HB.out
          obtain ⟨hrk, hb, hge, hsl⟩ := HX.out
          have hsz2 : (((wr.alloc zeroObj).alloc (.cells #[.slice (some ⟨wr.heap.size, 0, none⟩) 16 16] 56)).drew).heap.size = wr.heap.size + 2 := by
            show ((wr.alloc _).alloc _).heap.size = _
            simp
          have hsz := hgrow.size
          rw [hsz2] at hsz
          have hsvl : ∀ j, sv.ownBlock = some j → j < wr.heap.size := fun j hj => (hrk.srow.lt j hj).2
          have hold : ∀ j, j < wr.heap.size → (((wr.alloc zeroObj).alloc (.cells #[.slice (some ⟨wr.heap.size, 0, none⟩) 16 16] 56)).drew).heap[j]? = wr.heap[j]? := fun j hj =>
            (Below.heap_alloc _ _ _ (by simp; omega)).trans (Below.heap_alloc _ _ _ hj)
          have hkW : ∀ j, j < wr.heap.size → sv.ownBlock ≠ some j → w1.heap[j]? = wr.heap[j]? := fun j hj hn => (hgrow.block j (by rw [hsz2]; omega) (Ne.symm hn)).trans (hold j hj)
          have hnew : w1.heap[wr.heap.size]? = some zeroObj := (hgrow.block _ (by rw [hsz2]; omega) (fun e => by have := hsvl _ e.symm; omega)).trans ((Below.heap_alloc (wr.alloc zeroObj) _ _ (by simp)).trans (heap_alloc_new wr zeroObj))
          have hq : w.heap.size ≤ q := by
            rcases hat with h | h
            · exact hge q (.inr (.inl h))
            · have := hb.size; omega
          have hm := hrk.more (by omega) wr.heap.size q cap hown hkW (by omega) (hat.imp id fun h => by omega) (Nat.le_refl _) (fun e => by
            rcases hat with h | h
            · have := hsvl q h; omega
            · omega) hnew
          refine ⟨_, hm, ?_, fun j hj => ?_⟩
          · have h1 : Kept (fun j => w.heap.size ≤ j) wr w1 := ⟨hgrow.os, hgrow.tape, hgrow.output, by omega, fun j hj hn => hkW j hj fun e => hn (hge j (.inr (.inl e)))⟩
            exact hb.trans ((h1.setCell (p := ⟨w.heap.size, 0, none⟩) (.inl (Nat.le_refl _)) _).below (fun _ h => h) hb.size)
          · rcases hj with rfl | hj | hj | hj | ⟨x, hx, -⟩
            · exact Nat.le_refl _
            · have : q = j := by simpa [Value.ownBlock] using hj
              omega
            · exact nil_own hj
            · rcases List.mem_append.1 hj with hj | hj
              · exact hge j (.inr (.inr (.inr (.inl hj))))
              · obtain rfl : j = wr.heap.size := by simpa using hj
                exact hb.size
            · exact (List.not_mem_nil hx).elim
        have HMM := Lib.hid hmore
        clear hmore hk1 hk2 hx1 hx2 HG HN HO HB c0
        go_wp2_with fail
        obtain ⟨sb', hm1, hm2, hm3⟩ := HMM.out
        exact ⟨⟨k + 1, _, sb', by omega, by go_num, hm1, hm2, hm3⟩, by simp [intOf]; omega⟩
    · obtain rfl : k = n := by omega
      have HF := Lib.hid (And.intro hrk (And.intro hb hge))
      clear hrk hb hge hlt hk
      go_wp2_with fail
      go_ret
      obtain ⟨hrk, hb, hge⟩ := HF.out
      exact ⟨_, RBlk w.heap.size sv (.slice none 0 0) sb [], rfl, ⟨_, _, _, _, _, rfl, hrk, wf_new k, fun _ h => h, fun j hj => ⟨Nat.le_trans HB0.out.size (hge j hj), hrk.lt hj⟩, HB0.out.trans (hb.mono HB0.out.size)⟩, hb, hge⟩
end Go.Proofs.YtilplpjdbkipoaaGreatDoor
