/-
  Proved: contracts of the statements' own Runes and Name, by a text's letters. Conditions: at most 2^40 bytes; the library's tables lie as they should.
-/
import Derived.Test.YtfepkhlifpbkfaaDoorGlyphRef
namespace Go.Proofs.YtfepkhlifpbkfaaDoor
open Go Go.RowKit GlyphMath

def strLen : Value → Nat | .string b => b.size | _ => 0

def RelG (s : ByteArray) (w : World) (t v : Value) (wr : World) : Prop :=
  ∃ (u : ByteArray) (done : List Nat), t = .string u ∧ u.size ≤ s.size ∧ Below w.heap.size w wr ∧ RowL wr w.heap.size v done ∧ done ++ letters u = letters s

theorem new_cells (w : World) (r : Nat) : ∀ (j : Nat) (u : Value), [Value.int .i32 (r : Int)][j]? = some u → (w.alloc (.cells #[.int .i32 (r : Int)] 21)).cell? ((⟨w.heap.size, 0, none⟩ : Addr).add j) = some u := by
  intro j u hj
  match j, hj with
  | 0, hj => exact (World.cell?_alloc_mark _ #[.int .i32 (r : Int)] 21 (0, 0) 0).trans hj

theorem relG_step {s u' : ByteArray} {w : World} {r : Nat} {v v' : Value} {w1 w' : World} {done : List Nat} {c : Value} (hsz : u'.size ≤ s.size) (hb : Below w.heap.size w w1)
    (hrow : RowL w1 w.heap.size v done) (hl : done ++ r :: letters u' = letters s)
    (hown : w'.ownsRow w.heap.size 21 1 v' (done.length + 1) (rc done ++ [.int .i32 (r : Int)])) (hg : (w1.alloc (.cells #[c] 21)).grownBy w' v.ownBlock) : RelG s w (.string u') v' w' := by
  refine ⟨u', done ++ [r], rfl, hsz, ?_, ?_, by rw [List.append_assoc]; exact hl⟩
  · have b2 := hb.alloc hb.size (.cells #[c] 21)
    refine b2.grown hg b2.size ?_
    intro k e
    exact (World.ownsRow.lt hrow k e).1
  · unfold RowL
    rw [rc_add, List.length_append, List.length_singleton]
    exact hown

set_option maxHeartbeats 1000000 in
set_option maxRecDepth 100000 in
theorem rrunes_any (s : ByteArray) (w : World) (hs : s.size ≤ 1099511627776) (hT : Tabs w) :
    Calls Tryd.prog 19 #[.string s] w fun e w' => ∃ v, e = .returned v ∧ RowL w' w.heap.size v (letters s) ∧ Below w.heap.size w w' := by
  have HT := Lib.hid hT
  have HS := Lib.hid hs
  have HL := Lib.hid (letters_length s)
  clear hT hs
  obtain ⟨i0, hi, hz0, hz1, hz2⟩ := info_parts info32
  go_enter Tryd.func19, Tryd.ntmps19
  go_wp2_with fail
  go_loopw [0, 3] (fun t v wr => RelG s w t v wr) (fun t _ _ => strLen t)
  case atStart => exact ⟨s, [], rfl, Nat.le_refl _, Below.refl _ _, RowL.nil _ _, rfl⟩
  case round =>
    obtain ⟨u, done, rfl, hsz, hb, hrow, hdone⟩ := hrel
    have HTr := Lib.hid (HT.out.below hb)
    by_cases hp : 0 < u.size
    · obtain ⟨r, d, hd⟩ : ∃ r d, Utf8.decode u 0 = (r, d) := ⟨_, _, rfl⟩
      have hc := dec_any u wr hp HTr.out
      have hwd := width_pos u 0 hp
      have hwl := width_le u 0 hp
      have hst := letters_tail u hp
      rw [hd] at hwd hwl hst hc
      simp only [Nat.zero_add] at hwd hwl hst hc
      rw [hst] at hdone
      have HC := Lib.hid hc
      have HW := Lib.hid (And.intro hwd hwl)
      have hlen : done.length + 1 ≤ 1099511627776 := by
        have h1 := congrArg List.length hdone
        rw [List.length_append, List.length_cons] at h1
        have := HL.out; have := HS.out; omega
      have C3 := Lib.hid (show done.length + 1 ≤ maxLen by unfold maxLen; omega)
      have C4 := Lib.hid (show (done.length + 1) * 4 ≤ 140737488355328 by omega)
      have HD := Lib.hid hdone
      have HR := Lib.hid hrow
      have HB := Lib.hid hb
      have HP := Lib.hid (show (u.extract d u.size).size ≤ s.size ∧ (u.extract d u.size).size < u.size by rw [Lib.tail_size]; omega)
      have hpi : (0 : Int) < u.size := by omega
      have hdi : (d : Int) ≤ u.size := by omega
      clear hd hst hwd hwl hdone hlen hp hrow hb hc hsz
      go_wp2_with (first
        | (go_at_call 21; refine HC.out.mono ?_; rintro e w1 ⟨rfl, hb1⟩; have HB1 := Lib.hid (HB.out.trans (hb1.mono HB.out.size)); have HR1 := Lib.hid (HR.out.below hb1); have CO := Lib.hid (World.ownsRow.alloc HR1.out (.cells #[.int .i32 (r : Int)] 21)); have C5 := Lib.hid (show w.heap.size ≤ (w1.alloc (.cells #[.int .i32 (r : Int)] 21)).heap.size by rw [World.size_alloc]; have := HB1.out.size; omega); clear hb1)
        | (at_builtin; refine wpList_append_own _ rfl _ _ 49 rfl w.heap.size 21 i0 (.int .i32 0) 1 4 Tryd.underlying49 hi hz0 hz1 hz2 rfl (by decide) _ _ _ rfl CO.out ⟨w1.heap.size, 0, none⟩ 1 1 [.int .i32 (r : Int)] rfl rfl (new_cells w1 r) (by intro u hu; simp at hu; subst hu; rfl) C3.out C4.out C5.out ?_; intro v' w3 hown3 hg3 _))
      refine ⟨relG_step HP.out.1 HB1.out HR1.out HD.out hown3 hg3, ?_⟩
      exact HP.out.2
    · have hpi : ¬ (0 : Int) < u.size := by omega
      have h0 : letters u = [] := by rw [← rest_zero]; exact rest_end u 0 hp
      rw [h0, List.append_nil] at hdone
      have HR := Lib.hid (show RowL wr w.heap.size _ (letters s) by rw [← hdone]; exact hrow)
      have HB := Lib.hid hb
      clear hdone hrow hb hsz hp
      go_wp2_with fail
      go_ret
      exact ⟨_, rfl, HR.out, HB.out⟩
end Go.Proofs.YtfepkhlifpbkfaaDoor
