/-
  Proved: the contract of Runes, by a text's letters. Conditions: at most 1000 bytes.
-/
import Derived.Test.YtpgmlbdfmcbgoaaDoorGlyphRow
namespace Go.Proofs.YtpgmlbdfmcbgoaaDoor
open Go Go.RowKit GlyphMath

set_option maxHeartbeats 1000000 in
/-- Runes is a text's letters. -/
theorem runes_any (s : ByteArray) (w : World) (hs : s.size ≤ 1000) :
    Calls Tryd.prog 13 #[.string s] w fun e w' => ∃ g c, e = .returned (.slice (some ⟨g, 0, none⟩) (letters s).length c) ∧ RowL w' w.heap.size (.slice (some ⟨g, 0, none⟩) (letters s).length c) (letters s) ∧ Below w.heap.size w w' := by
  have hl := letters_length s
  obtain ⟨N, hN⟩ : ∃ N, (letters s).length = N := ⟨_, rfl⟩
  have hc := count_any s w (by omega)
  rw [hN] at hc hl
  have HL := Lib.hid (show N ≤ 1000 by omega)
  have HN := Lib.hid hN
  clear hl hN hs
  obtain ⟨i0, hi, hz0, hz1, hz2⟩ := info_parts info32
  have B2 := Lib.hid (show i0.bytes * N ≤ 281474976710656 by rw [hz2]; have := HL.out; omega)
  have B3 := Lib.hid (show N ≤ maxLen by have := HL.out; unfold maxLen; omega)
  go_enter Tryd.func13, Tryd.ntmps13
  go_wp2_with fail
  refine hc.mono ?_
  rintro e w1 ⟨rfl, hb1⟩
  have H1 := Lib.hid hb1
  clear hb1 hc
  go_wp2_with (at_make; refine wpList_make_own _ rfl _ _ 32 rfl w.heap.size 21 i0 (.int .i32 0) 1 Tryd.underlying32 hi hz0 hz1 .i64 .i64 _ N rfl rfl rfl B2.out B3.out H1.out.size ?_; intro w2 hown2 hg2)
  have H2 := Lib.hid (H1.out.grown hg2 H1.out.size (fun k e => by cases e))
  have O2 := Lib.hid hown2
  clear hown2 hg2
  have HK := Lib.hid (show w.heap.size ≤ w2.heap.size from H2.out.size)
  go_loopw [3] (fun v wr => RelR s w w2.heap.size v wr) (fun _ wr => s.size - wr.iterPos w2.heap.size)
  case atStart =>
    refine ⟨0, [], World.iter_heap w2 s 0, HK.out, H2.out.alloc HK.out _, ?_, rfl, by simp⟩
    exact RowL.below (w := w2) O2.out (below_iter w2 s 0)
  case round =>
    obtain ⟨pos, done, hk, -, hb, hrow, hdone, hne⟩ := hrel
    obtain ⟨K, hKe⟩ : ∃ K, w2.heap.size = K := ⟨_, rfl⟩
    rw [hKe] at hk ⊢
    have HKK := Lib.hid (show w.heap.size ≤ K by rw [← hKe]; exact HK.out)
    have HKE := Lib.hid hKe
    clear hKe
    have HL2 := Lib.hid (letters_length s)
    by_cases hp : pos < s.size
    · obtain ⟨r, d, hd⟩ : ∃ r d, Utf8.decode s pos = (r, d) := ⟨_, _, rfl⟩
      have hnx : ∀ ty, (Instr.next (.pointer (some ⟨K, 0, none⟩)) true ty).run Tryd.prog wr = .ok (.tuple #[.bool true, .int .i64 pos, .int .i32 (r : Int)]) (wr.iterAt K s (pos + d)) := fun ty => by rw [Lib.run_next_any_at wr K s pos ty hk hp, hd]
      have hwd := width_pos s pos hp
      have hst := rest_step s pos hp
      rw [hd] at hst hwd
      simp only at hst hwd
      rw [hst] at hdone
      have hlen : done.length + 1 ≤ 1000 := by
        have h1 := congrArg List.length hdone
        rw [List.length_append, List.length_cons] at h1
        have := HN.out; have := HL.out; omega
      have HW := Lib.hid (And.intro hp hwd)
      have C3 := Lib.hid (show done.length + 1 ≤ maxLen by unfold maxLen; omega)
      have C4 := Lib.hid (show (done.length + 1) * 4 ≤ 140737488355328 by omega)
      have HD := Lib.hid hdone
      have HR := Lib.hid hrow
      have HB := Lib.hid hb
      have HKr := Lib.hid hk
      have HNE := Lib.hid hne
      have C5 := Lib.hid (show w.heap.size ≤ ((wr.iterAt K s (pos + d)).alloc (.cells #[.int .i32 (r : Int)] 21)).heap.size by simp only [World.size_alloc, Lib.iterAt_size]; have := hb.size; omega)
      have CO := Lib.hid (World.ownsRow.alloc (RowL.iterAt (pos' := pos + d) hrow hk) (.cells #[.int .i32 (r : Int)] 21))
      have C1 := Lib.hid (fun (j : Nat) (u : Value) (hj : [Value.int .i32 (r : Int)][j]? = some u) => (show ((wr.iterAt K s (pos + d)).alloc (.cells #[.int .i32 (r : Int)] 21)).cell? ((⟨(wr.iterAt K s (pos + d)).heap.size, 0, none⟩ : Addr).add j) = some u by
        match j, hj with
        | 0, hj => exact (World.cell?_alloc_mark _ #[.int .i32 (r : Int)] 21 (0, 0) 0).trans hj))
      clear hd hst hwd hdone hlen hp hrow hb hk hne
      go_wp2_with (at_builtin; refine wpList_append_own _ rfl _ _ 32 rfl w.heap.size 21 i0 (.int .i32 0) 1 4 Tryd.underlying32 hi hz0 hz1 hz2 rfl (by decide) _ _ _ rfl CO.out ⟨(wr.iterAt K s (pos + d)).heap.size, 0, none⟩ 1 1 [.int .i32 (r : Int)] rfl rfl C1.out (by intro u hu; simp at hu; subst hu; rfl) C3.out C4.out C5.out ?_; intro v' w3 hown3 hg3 hn3)
      have R := relR_step HKr.out HKK.out HB.out HR.out HD.out (fun e => HNE.out (hn3.1 e).1) hown3 hg3
      refine ⟨R.2, ?_⟩
      have e1 : w3.iterPos K = pos + d := by unfold World.iterPos; rw [R.1]
      have e2 : wr.iterPos K = pos := by unfold World.iterPos; rw [HKr.out]
      rw [e1, e2]
      have := HW.out
      omega
    · have hnx : ∀ ty, (Instr.next (.pointer (some ⟨K, 0, none⟩)) true ty).run Tryd.prog wr = _ := fun ty => Lib.run_next_end_at wr K s pos ty hk hp
      rw [rest_end s pos hp, List.append_nil] at hdone
      have HR := Lib.hid (show RowL wr w.heap.size _ (letters s) by rw [← hdone]; exact hrow)
      have HB := Lib.hid hb
      have HE := Lib.hid (HR.out.is.resolve_left (fun x => hne x.1))
      clear hdone hrow hb hk hne
      go_wp2_with fail
      go_ret
      obtain ⟨g, c, hv⟩ := HE.out
      exact ⟨g, c, by rw [← hv]; rfl, by rw [← hv]; exact HR.out, HB.out⟩
end Go.Proofs.YtpgmlbdfmcbgoaaDoor
