/-
  Proved: the contract of read: a reader of a text. Conditions: a text of at most 2000 bytes.
-/
import Derived.Test.YtpifbpfmjmcchaaDoorLexText
import Derived.OwnWalk
import Derived.Lib.OthersKept
namespace Go.Proofs.YtpifbpfmjmcchaaDoor
open Go Go.RowKit GlyphMath LexMath

theorem infoLetter : (Tryd.prog.info? 62).map (fun i => (i.zero, i.size, i.bytes)) = some (some (.agg #[.int .i32 0, .int .i64 0]), 2, 16) := by kernel_rfl
theorem ownsRow_iterAt {w : World} {B K pos pos' e size n : Nat} {s : ByteArray} {v : Value} {xs : List Value} (h : w.ownsRow B e size v n xs) (hk : w.heap[K]? = some (.stringIter s pos)) : (w.iterAt K s pos').ownsRow B e size v n xs := by
  refine ⟨h.1, ?_⟩
  rcases h.2 with hn | ⟨g, cap, cur, hv, hbg, hg, r⟩
  · exact .inl hn
  · have hne : g ≠ K := by intro e; rw [e, hk] at hg; cases hg
    exact .inr ⟨g, cap, cur, hv, hbg, (Lib.iterAt_other w K g s pos' hne).trans hg, r⟩
theorem ownsRow_ne_iter {w : World} {B K pos e size n : Nat} {s : ByteArray} {v : Value} {xs : List Value} (h : w.ownsRow B e size v n xs) (hk : w.heap[K]? = some (.stringIter s pos)) : v.ownBlock ≠ some K := by
  intro e
  rcases h.2 with ⟨hn, -⟩ | ⟨g, cap, cur, hv, -, hg, -⟩
  · rw [hn] at e; simp [Value.ownBlock] at e
  · rw [hv] at e
    simp only [Value.ownBlock, Option.some.injEq] at e
    rw [e, hk] at hg; cases hg

/-- Gathered so far. -/
structure RelB (s : ByteArray) (w : World) (K : Nat) (v : Value) (wr : World) (pos k : Nat) (done : List Value) : Prop where
  iter : wr.heap[K]? = some (.stringIter s pos)
  low : w.heap.size ≤ K
  below : Below w.heap.size w wr
  row : wr.ownsRow w.heap.size 62 2 v k done
  said : done ++ lcells s.size (rest s pos) = lcells s.size (letters s)
  num : k + (rest s pos).length = (letters s).length
  text : badFrom s pos = none
  pos_ : pos ≤ s.size

theorem relB_step {s : ByteArray} {w : World} {K pos d r k : Nat} {v v' : Value} {wr w' : World} {done : List Value} {o : Obj} (h : RelB s w K v wr pos k done) (hp : pos < s.size) (hd : Utf8.decode s pos = (r, d))
    (hown : w'.ownsRow w.heap.size 62 2 v' (k + 1) (done ++ [.int .i32 (r : Int), .int .i64 (pos : Int)])) (hg : ((wr.iterAt K s (pos + d)).alloc o).grownBy w' v.ownBlock) :
    RelB s w K v' w' (pos + d) (k + 1) (done ++ [.int .i32 (r : Int), .int .i64 (pos : Int)]) := by
  have hlt : K < wr.heap.size := (Array.getElem?_eq_some_iff.1 h.iter).1
  have hsz := Lib.iterAt_size wr K s (pos + d)
  have hi : w'.heap[K]? = some (.stringIter s (pos + d)) := by
    rw [hg.block K (by simp; omega) (fun e => ownsRow_ne_iter h.row h.iter e.symm), Below.heap_alloc _ _ _ (by omega)]
    exact Lib.iterAt_heap wr K s pos (pos + d) h.iter
  have hbad := h.text
  rw [badFrom_step s pos hp] at hbad
  have hb0 : bad s pos = false := by
    cases hbd : bad s pos with
    | true => rw [hbd] at hbad; simp at hbad
    | false => rfl
  rw [hb0, hd] at hbad
  have hw := width_le s pos hp
  rw [hd] at hw
  have ht := rest_text s s.size pos (by omega) (by omega) h.text
  have hst := rest_step s pos hp
  rw [hd] at hst
  simp only at hst hw
  have hs := h.said
  have hnum := h.num
  refine ⟨hi, h.low, ?_, hown, ?_, ?_, by simpa using hbad, hw⟩
  · have b1 := Lib.below_iterAt h.below h.low s (pos + d)
    have b2 := b1.alloc (by have := h.below.size; omega) o
    refine b2.grown hg (by have := h.below.size; simp; omega) ?_
    intro j e
    exact (World.ownsRow.lt h.row j e).1
  · rw [← hs]
    have h1 := ht.1
    rw [hst] at h1 ⊢
    rw [List.append_assoc]
    congr 1
    simp only [lcells, List.cons_append, List.nil_append, List.cons.injEq, true_and, and_true]
    rw [h1]
    congr 2
    omega
  · rw [hst, List.length_cons] at hnum
    omega

set_option maxHeartbeats 1000000 in
set_option maxRecDepth 100000 in
theorem read_any (s : ByteArray) (w : World) (hs : s.size ≤ 2000) (ht : isText s = true) :
    Calls Tryd.prog 14 #[.string s] w fun e w' => ∃ X G, e = .returned (.pointer (some ⟨X, 0, none⟩)) ∧ Rd w' X G s.size (letters s) ∧ Below w.heap.size w w' ∧ w.heap.size ≤ X ∧ w.heap.size ≤ G := by
  have hl := letters_length s
  obtain ⟨N, hN⟩ : ∃ N, (letters s).length = N := ⟨_, rfl⟩
  have hc := count_any s w (by omega)
  rw [hN] at hc hl
  have HL := Lib.hid (show N ≤ 2000 by omega)
  have hNi : (N : Int) ≤ 2000 := by omega
  have hN0 : (0 : Int) ≤ (N : Int) := by omega
  have HN := Lib.hid hN
  have HG := Lib.hid (text_good ht).2
  have HTX := Lib.hid (text_none ht)
  have HSZ := Lib.hid hs
  have hsi : (s.size : Int) ≤ 2000 := by omega
  clear hl hN hs ht
  obtain ⟨i0, hi, hz0, hz1, hz2⟩ := info_parts infoLetter
  have B2 := Lib.hid (show i0.bytes * (N + 1) ≤ 281474976710656 by rw [hz2]; have := HL.out; omega)
  have B3 := Lib.hid (show N + 1 ≤ maxLen by have := HL.out; unfold maxLen; omega)
  go_enter Tryd.func14, Tryd.ntmps14
  go_wp2_with fail
  refine hc.mono ?_
  rintro e w1 ⟨rfl, hb1⟩
  have H1 := Lib.hid hb1
  clear hb1 hc
  go_wp2_with (at_make; refine wpList_make_own _ rfl _ _ 59 rfl w.heap.size 62 i0 (.agg #[.int .i32 0, .int .i64 0]) 2 Tryd.underlying59 hi hz0 hz1 .i64 .i64 _ (N + 1) rfl rfl rfl B2.out B3.out H1.out.size ?_; intro w2 hown2 hg2)
  have H2 := Lib.hid (H1.out.grown hg2 H1.out.size (fun k e => by cases e))
  have O2 := Lib.hid hown2
  clear hown2 hg2
  have HK := Lib.hid (show w.heap.size ≤ w2.heap.size from H2.out.size)
  go_loopw [3] (fun v wr => ∃ pos k done, RelB s w w2.heap.size v wr pos k done) (fun _ wr => s.size - wr.iterPos w2.heap.size)
  case atStart =>
    exact ⟨0, 0, [], World.iter_heap w2 s 0, HK.out, H2.out.alloc HK.out _, World.ownsRow.kept (row := none) O2.out ⟨rfl, rfl, rfl, (below_iter w2 s 0).size, fun k hk _ => (below_iter w2 s 0).block k hk⟩ (.inr (by simp [Value.ownBlock])), rfl, by rw [rest_zero, Nat.zero_add], by rw [badFrom_zero]; exact HTX.out, Nat.zero_le _⟩
  case round =>
    obtain ⟨pos, k, done, hR⟩ := hrel
    obtain ⟨K, hKe⟩ : ∃ K, w2.heap.size = K := ⟨_, rfl⟩
    rw [hKe] at hR ⊢
    have HKK := Lib.hid (show w.heap.size ≤ K by rw [← hKe]; exact HK.out)
    clear hKe
    have HR := Lib.hid hR
    have hit := hR.iter
    have hnum : k ≤ 2000 := by have := hR.num; have := HN.out; have := HL.out; omega
    clear hR
    by_cases hp : pos < s.size
    · obtain ⟨r, d, hd⟩ : ∃ r d, Utf8.decode s pos = (r, d) := ⟨_, _, rfl⟩
      have hnx : ∀ ty, (Instr.next (.pointer (some ⟨K, 0, none⟩)) true ty).run Tryd.prog wr = .ok (.tuple #[.bool true, .int .i64 pos, .int .i32 (r : Int)]) (wr.iterAt K s (pos + d)) := fun ty => by rw [Lib.run_next_any_at wr K s pos ty hit hp, hd]
      have hwd := width_pos s pos hp
      rw [hd] at hwd
      have HW := Lib.hid (And.intro hp (And.intro hwd hd))
      have C3 := Lib.hid (show k + 1 ≤ maxLen by unfold maxLen; omega)
      have C4 := Lib.hid (show (k + 1) * 16 ≤ 140737488355328 by omega)
      have C5 := Lib.hid (show w.heap.size ≤ ((wr.iterAt K s (pos + d)).alloc (.cells #[.int .i32 (r : Int), .int .i64 (pos : Int)] 62)).heap.size by simp only [World.size_alloc, Lib.iterAt_size]; have := HR.out.below.size; omega)
      have CO := Lib.hid (World.ownsRow.alloc (ownsRow_iterAt (pos' := pos + d) HR.out.row hit) (.cells #[.int .i32 (r : Int), .int .i64 (pos : Int)] 62))
      have C1 := Lib.hid (fun (j : Nat) (u : Value) (hj : [Value.int .i32 (r : Int), .int .i64 (pos : Int)][j]? = some u) => (show ((wr.iterAt K s (pos + d)).alloc (.cells #[.int .i32 (r : Int), .int .i64 (pos : Int)] 62)).cell? ((⟨(wr.iterAt K s (pos + d)).heap.size, 0, none⟩ : Addr).add j) = some u from World.news_of_block (heap_alloc_new (wr.iterAt K s (pos + d)) (.cells #[.int .i32 (r : Int), .int .i64 (pos : Int)] 62)) j u hj))
      clear hd hwd hp hit
      go_wp2_with (at_builtin; refine wpList_append_own _ rfl _ _ 59 rfl w.heap.size 62 i0 (.agg #[.int .i32 0, .int .i64 0]) 2 16 Tryd.underlying59 hi hz0 hz1 hz2 rfl (by decide) _ _ _ rfl CO.out ⟨(wr.iterAt K s (pos + d)).heap.size, 0, none⟩ 1 1 [.int .i32 (r : Int), .int .i64 (pos : Int)] rfl rfl C1.out (by intro u hu; simp at hu; rcases hu with rfl | rfl <;> rfl) C3.out C4.out C5.out ?_; intro v' w3 hown3 hg3 hn3)
      have R := relB_step HR.out HW.out.1 HW.out.2.2 hown3 hg3
      refine ⟨⟨_, _, _, R⟩, ?_⟩
      have e1 : w3.iterPos K = pos + d := by unfold World.iterPos; rw [R.iter]
      have e2 : wr.iterPos K = pos := by unfold World.iterPos; rw [HR.out.iter]
      rw [e1, e2]
      have := HW.out
      omega
    · have hnx : ∀ ty, (Instr.next (.pointer (some ⟨K, 0, none⟩)) true ty).run Tryd.prog wr = _ := fun ty => Lib.run_next_end_at wr K s pos ty hit hp
      have hsd := HR.out.said
      have hnm := HR.out.num
      rw [rest_end s pos hp] at hsd hnm
      have HSD := Lib.hid (And.intro hsd hnm)
      have C3 := Lib.hid (show k + 1 ≤ maxLen by unfold maxLen; omega)
      have C4 := Lib.hid (show (k + 1) * 16 ≤ 140737488355328 by omega)
      have C5 := Lib.hid (show w.heap.size ≤ (wr.alloc (.cells #[.int .i32 0, .int .i64 (s.size : Int)] 62)).heap.size by simp only [World.size_alloc]; have := HR.out.below.size; omega)
      have CO := Lib.hid (World.ownsRow.alloc HR.out.row (.cells #[.int .i32 0, .int .i64 (s.size : Int)] 62))
      have C1 := Lib.hid (fun (j : Nat) (u : Value) (hj : [Value.int .i32 0, .int .i64 (s.size : Int)][j]? = some u) => (show (wr.alloc (.cells #[.int .i32 0, .int .i64 (s.size : Int)] 62)).cell? ((⟨wr.heap.size, 0, none⟩ : Addr).add j) = some u from World.news_of_block (heap_alloc_new wr (.cells #[.int .i32 0, .int .i64 (s.size : Int)] 62)) j u hj))
      clear hsd hnm hp hit
      go_wp2_with (at_builtin; refine wpList_append_lies _ rfl _ _ 59 rfl w.heap.size 62 i0 (.agg #[.int .i32 0, .int .i64 0]) 2 16 Tryd.underlying59 hi hz0 hz1 hz2 rfl (by decide) _ _ _ rfl CO.out ⟨wr.heap.size, 0, none⟩ 1 1 [.int .i32 0, .int .i64 (s.size : Int)] rfl rfl C1.out (by intro u hu; simp at hu; rcases hu with rfl | rfl <;> rfl) (by decide) C3.out C4.out C5.out (wr.heap.size + 1) (by simp) ?_; intro g cap w3 hown3 hg3 hat3 hlt3; have H3 := Lib.hid (And.intro hown3 (And.intro hg3 (And.intro hat3 hlt3))); clear hown3 hg3 hat3 hlt3)
      go_ret
      obtain ⟨hown, hg, hat, hlt⟩ := H3.out
      obtain ⟨hsd, hnm⟩ := HSD.out
      have hk : k = (letters s).length := by simpa using hnm
      have hown2 : w3.ownsRow w.heap.size 62 2 (.slice (some ⟨g, 0, none⟩) (k + 1) cap) (k + 1) (lcells s.size (letters s)) := by rw [← hsd]; exact hown
      have hlen := hown2.1
      have hcap : k + 1 ≤ cap := by
        rcases hown2.2 with ⟨hv, _⟩ | ⟨g', cap', cur, hv, _, _, hc, _⟩
        · cases hv
        · cases hv; exact hc
      have hgw := World.ownsRow.lt hown2 g rfl
      have hb3 : Below w.heap.size w w3 := (HR.out.below.alloc HR.out.below.size _).grown hg C5.out (fun j e => (World.ownsRow.lt CO.out j e).1)
      refine ⟨w3.heap.size, g, rfl, ⟨0, cap, ?_⟩, hb3.alloc hb3.size _, hb3.size, hgw.1⟩
      refine { head := by rw [← hk]; exact heap_alloc_new w3 _, cap := by rw [← hk]; exact hcap, row := fun j v hj => ?_, ne := by omega, good := HG.out, few := by rw [HN.out]; exact HL.out }
      have hj2 := (List.getElem?_eq_some_iff.1 hj).1
      rw [World.cell?_alloc_lt _ _ _ hgw.2, Nat.zero_add, hown2.cellAt j (by omega)]
      exact hj
end Go.Proofs.YtpifbpfmjmcchaaDoor
