/-
  Proved: contracts of Runes (the program's) and of Same, over rows of letters that the call owns. Conditions: at most 1000 bytes.
-/
import Derived.Test.YtnemikhdpneblaaDoorGlyphCode
import Derived.OwnWalk
import Derived.Lib.OthersKept
import Derived.Laws.Cover4
namespace Go.Proofs.YtnemikhdpneblaaDoor
open Go Go.RowKit GlyphMath

/-- Letters as cells. -/
def rc (l : List Nat) : List Value := l.map fun (x : Nat) => Value.int .i32 (x : Int)
theorem rc_add (l : List Nat) (x : Nat) : rc (l ++ [x]) = rc l ++ [.int .i32 (x : Int)] := by simp [rc]
theorem rc_length (l : List Nat) : (rc l).length = l.length := by simp [rc]
/-- A row of letters that the call owns. -/
def RowL (w : World) (B : Nat) (v : Value) (l : List Nat) : Prop := w.ownsRow B 21 1 v l.length (rc l)

theorem grown_of_below {w w' : World} (h : Below w.heap.size w w') : w.grownBy w' none := ⟨h.os, h.tape, h.output, h.size, fun k hk _ => h.block k hk⟩
theorem RowL.below {w w' : World} {B : Nat} {v : Value} {l : List Nat} (h : RowL w B v l) (hb : Below w.heap.size w w') : RowL w' B v l := by
  refine World.ownsRow.kept h (grown_of_below hb) ?_
  cases hv : v.ownBlock with
  | none => exact .inl rfl
  | some k => exact .inr (by simp)
theorem RowL.nil (w : World) (B : Nat) : RowL w B (.slice none 0 0) [] := World.ownsRow_nil _ _ _ _
theorem RowL.iterAt {w : World} {B K pos pos' : Nat} {s : ByteArray} {v : Value} {l : List Nat} (h : RowL w B v l) (hk : w.heap[K]? = some (.stringIter s pos)) : RowL (w.iterAt K s pos') B v l := by
  refine ⟨h.1, ?_⟩
  rcases h.2 with hn | ⟨g, cap, cur, hv, hbg, hg, r⟩
  · exact .inl hn
  · have hne : g ≠ K := by intro e; rw [e, hk] at hg; cases hg
    exact .inr ⟨g, cap, cur, hv, hbg, (Lib.iterAt_other w K g s pos' hne).trans hg, r⟩
theorem RowL.ne_iter {w : World} {B K pos : Nat} {s : ByteArray} {v : Value} {l : List Nat} (h : RowL w B v l) (hk : w.heap[K]? = some (.stringIter s pos)) : v.ownBlock ≠ some K := by
  intro e
  rcases h.2 with ⟨hn, -⟩ | ⟨g, cap, cur, hv, -, hg, -⟩
  · rw [hn] at e; simp [Value.ownBlock] at e
  · rw [hv] at e
    simp only [Value.ownBlock, Option.some.injEq] at e
    rw [e, hk] at hg; cases hg

/-- What a row's value is: nil, or so many cells. -/
theorem RowL.is {w : World} {B : Nat} {v : Value} {l : List Nat} (h : RowL w B v l) : (v = .slice none 0 0 ∧ l = []) ∨ ∃ g c, v = .slice (some ⟨g, 0, none⟩) l.length c := by
  rcases h.2 with ⟨hv, hn⟩ | ⟨g, cap, cur, hv, -⟩
  · exact .inl ⟨hv, List.eq_nil_of_length_eq_zero hn⟩
  · exact .inr ⟨g, cap, hv⟩

theorem info32 : (Tryd.prog.info? 21).map (fun i => (i.zero, i.size, i.bytes)) = some (some (.int .i32 0), 1, 4) := by kernel_rfl

/-- Gathered so far. -/
def RelR (s : ByteArray) (w : World) (K : Nat) (v : Value) (wr : World) : Prop :=
  ∃ (pos : Nat) (done : List Nat), wr.heap[K]? = some (.stringIter s pos) ∧ w.heap.size ≤ K ∧ Below w.heap.size w wr ∧ RowL wr w.heap.size v done ∧ done ++ rest s pos = letters s ∧ v ≠ .slice none 0 0

theorem relR_step {s : ByteArray} {w : World} {K pos d r : Nat} {v v' : Value} {wr w' : World} {done : List Nat} {c : Value} (hk : wr.heap[K]? = some (.stringIter s pos)) (hK : w.heap.size ≤ K) (hb : Below w.heap.size w wr)
    (hrow : RowL wr w.heap.size v done) (hl : done ++ r :: rest s (pos + d) = letters s) (hne : v' ≠ .slice none 0 0)
    (hown : w'.ownsRow w.heap.size 21 1 v' (done.length + 1) (rc done ++ [.int .i32 (r : Int)])) (hg : ((wr.iterAt K s (pos + d)).alloc (.cells #[c] 21)).grownBy w' v.ownBlock) :
    w'.heap[K]? = some (.stringIter s (pos + d)) ∧ RelR s w K v' w' := by
  have hlt : K < wr.heap.size := (Array.getElem?_eq_some_iff.1 hk).1
  have h1 := Lib.iterAt_heap wr K s pos (pos + d) hk
  have hsz := Lib.iterAt_size wr K s (pos + d)
  have h2 : w'.heap[K]? = some (.stringIter s (pos + d)) := by
    rw [hg.block K (by simp; omega) (fun e => hrow.ne_iter hk e.symm), Below.heap_alloc _ _ _ (by omega)]
    exact h1
  refine ⟨h2, pos + d, done ++ [r], h2, hK, ?_, ?_, by rw [List.append_assoc]; exact hl, hne⟩
  · have b1 := Lib.below_iterAt hb hK s (pos + d)
    have b2 := b1.alloc (by have := hb.size; omega) (.cells #[c] 21)
    refine b2.grown hg (by have := hb.size; simp; omega) ?_
    intro k e
    exact (World.ownsRow.lt hrow k e).1
  · unfold RowL
    rw [rc_add, List.length_append, List.length_singleton]
    exact hown

set_option maxHeartbeats 1000000 in
/-- Runes is a text's letters. -/
theorem runes_any (s : ByteArray) (w : World) (hs : s.size ≤ 1000) :
    Calls Tryd.prog 9 #[.string s] w fun e w' => ∃ g c, e = .returned (.slice (some ⟨g, 0, none⟩) (letters s).length c) ∧ RowL w' w.heap.size (.slice (some ⟨g, 0, none⟩) (letters s).length c) (letters s) ∧ Below w.heap.size w w' := by
  have hl := letters_length s
  obtain ⟨N, hN⟩ : ∃ N, (letters s).length = N := ⟨_, rfl⟩
  have hc := count_any s w (by omega)
  rw [hN] at hc hl
  have HL := Lib.hid (show N ≤ 1000 by omega)
  have HN := Lib.hid hN
  clear hl hN hs
  obtain ⟨i0, hi, hz0, hz1, hz2⟩ := info_parts info32
  have B2 := Lib.hid (show i0.bytes * N ≤ 281474976710656 by rw [hz2]; have := HL.out; omega)
  have B3 := Lib.hid (show N ≤ maxLen by have := HL.out; unfold maxLen; omega)
  go_enter Tryd.func9, Tryd.ntmps9
  go_wp2_with fail
  refine hc.mono ?_
  rintro e w1 ⟨rfl, hb1⟩
  have H1 := Lib.hid hb1
  clear hb1 hc
  go_wp2_with (at_make; refine wpList_make_own _ rfl _ _ 24 rfl w.heap.size 21 i0 (.int .i32 0) 1 Tryd.underlying24 hi hz0 hz1 .i64 .i64 _ N rfl rfl rfl B2.out B3.out H1.out.size ?_; intro w2 hown2 hg2)
  have H2 := Lib.hid (H1.out.grown hg2 H1.out.size (fun k e => by cases e))
  have O2 := Lib.hid hown2
  clear hown2 hg2
  have HK := Lib.hid (show w.heap.size ≤ w2.heap.size from H2.out.size)
  go_loopw [3] (fun v wr => RelR s w w2.heap.size v wr) (fun _ wr => s.size - wr.iterPos w2.heap.size)
  case atStart =>
    refine ⟨0, [], World.iter_heap w2 s 0, HK.out, H2.out.alloc HK.out _, ?_, rfl, by simp⟩
    exact RowL.below (w := w2) O2.out (below_iter w2 s 0)
  case round =>
    obtain ⟨pos, done, hk, -, hb, hrow, hdone, hne⟩ := hrel
    obtain ⟨K, hKe⟩ : ∃ K, w2.heap.size = K := ⟨_, rfl⟩
    rw [hKe] at hk ⊢
    have HKK := Lib.hid (show w.heap.size ≤ K by rw [← hKe]; exact HK.out)
    have HKE := Lib.hid hKe
    clear hKe
    have HL2 := Lib.hid (letters_length s)
    by_cases hp : pos < s.size
    · obtain ⟨r, d, hd⟩ : ∃ r d, Utf8.decode s pos = (r, d) := ⟨_, _, rfl⟩
      have hnx : ∀ ty, (Instr.next (.pointer (some ⟨K, 0, none⟩)) true ty).run Tryd.prog wr = .ok (.tuple #[.bool true, .int .i64 pos, .int .i32 (r : Int)]) (wr.iterAt K s (pos + d)) := fun ty => by rw [Lib.run_next_any_at wr K s pos ty hk hp, hd]
      have hwd := width_pos s pos hp
      have hst := rest_step s pos hp
      rw [hd] at hst hwd
      simp only at hst hwd
      rw [hst] at hdone
      have hlen : done.length + 1 ≤ 1000 := by
        have h1 := congrArg List.length hdone
        rw [List.length_append, List.length_cons] at h1
        have := HN.out; have := HL.out; omega
      have HW := Lib.hid (And.intro hp hwd)
      have C3 := Lib.hid (show done.length + 1 ≤ maxLen by unfold maxLen; omega)
      have C4 := Lib.hid (show (done.length + 1) * 4 ≤ 140737488355328 by omega)
      have HD := Lib.hid hdone
      have HR := Lib.hid hrow
      have HB := Lib.hid hb
      have HKr := Lib.hid hk
      have HNE := Lib.hid hne
      have C5 := Lib.hid (show w.heap.size ≤ ((wr.iterAt K s (pos + d)).alloc (.cells #[.int .i32 (r : Int)] 21)).heap.size by simp only [World.size_alloc, Lib.iterAt_size]; have := hb.size; omega)
      have CO := Lib.hid (World.ownsRow.alloc (RowL.iterAt (pos' := pos + d) hrow hk) (.cells #[.int .i32 (r : Int)] 21))
      have C1 := Lib.hid (fun (j : Nat) (u : Value) (hj : [Value.int .i32 (r : Int)][j]? = some u) => (show ((wr.iterAt K s (pos + d)).alloc (.cells #[.int .i32 (r : Int)] 21)).cell? ((⟨(wr.iterAt K s (pos + d)).heap.size, 0, none⟩ : Addr).add j) = some u by
        match j, hj with
        | 0, hj => exact (World.cell?_alloc_mark _ #[.int .i32 (r : Int)] 21 (0, 0) 0).trans hj))
      clear hd hst hwd hdone hlen hp hrow hb hk hne
      go_wp2_with (at_builtin; refine wpList_append_own _ rfl _ _ 24 rfl w.heap.size 21 i0 (.int .i32 0) 1 4 Tryd.underlying24 hi hz0 hz1 hz2 rfl (by decide) _ _ _ rfl CO.out ⟨(wr.iterAt K s (pos + d)).heap.size, 0, none⟩ 1 1 [.int .i32 (r : Int)] rfl rfl C1.out (by intro u hu; simp at hu; subst hu; rfl) C3.out C4.out C5.out ?_; intro v' w3 hown3 hg3 hn3)
      have R := relR_step HKr.out HKK.out HB.out HR.out HD.out (fun e => HNE.out (hn3.1 e).1) hown3 hg3
      refine ⟨R.2, ?_⟩
      have e1 : w3.iterPos K = pos + d := by unfold World.iterPos; rw [R.1]
      have e2 : wr.iterPos K = pos := by unfold World.iterPos; rw [HKr.out]
      rw [e1, e2]
      have := HW.out
      omega
    · have hnx : ∀ ty, (Instr.next (.pointer (some ⟨K, 0, none⟩)) true ty).run Tryd.prog wr = _ := fun ty => Lib.run_next_end_at wr K s pos ty hk hp
      rw [rest_end s pos hp, List.append_nil] at hdone
      have HR := Lib.hid (show RowL wr w.heap.size _ (letters s) by rw [← hdone]; exact hrow)
      have HB := Lib.hid hb
      have HE := Lib.hid (HR.out.is.resolve_left (fun x => hne x.1))
      clear hdone hrow hb hk hne
      go_wp2_with fail
      go_ret
      obtain ⟨g, c, hv⟩ := HE.out
      exact ⟨g, c, by rw [← hv]; rfl, by rw [← hv]; exact HR.out, HB.out⟩
end Go.Proofs.YtnemikhdpneblaaDoor
