/-
  Proved: texts joined: Proved: the contract of read: a reader of a text. Conditions: a text of at most 2000 bytes.
  Proved: rows of tokens in memory; what tokens take. Conditions: as each says.
  Proved: the contract of Tokens, of a text. Conditions: at most 2000 bytes; the program's signs lie as they should.
  Proved: a word that was made is one that can be read. Conditions: none.
  Proved: the contract of the lexer as a parser uses it. Conditions: the lexer's table of signs lies in memory.
-/
import Derived.Test.YtakceggnadagmaaGreatDoorPj34
import Derived.OwnWalk
import Derived.Lib.OthersKept
import Derived.Test.YtakceggnadagmaaGreatDoorPj05
import Derived.Test.YtakceggnadagmaaGreatDoorPj02
import Derived.Test.YtakceggnadagmaaGreatDoorPj15
import Derived.Test.YtakceggnadagmaaGreatDoorPj16
import Derived.Test.YtakceggnadagmaaGreatDoorPj24
namespace Go.Proofs.YtakceggnadagmaaGreatDoor
open Go Go.RowKit GlyphMath LexMath

theorem infoLetter : (Tryz.prog.info? 121).map (fun i => (i.zero, i.size, i.bytes)) = some (some (.agg #[.int .i32 0, .int .i64 0]), 2, 16) := by kernel_rfl
theorem ownsRow_iterAt {w : World} {B K pos pos' e size n : Nat} {s : ByteArray} {v : Value} {xs : List Value} (h : w.ownsRow B e size v n xs) (hk : w.heap[K]? = some (.stringIter s pos)) : (w.iterAt K s pos').ownsRow B e size v n xs := by
  refine ⟨h.1, ?_⟩
  rcases h.2 with hn | ⟨g, cap, cur, hv, hbg, hg, r⟩
  · exact .inl hn
  · have hne : g ≠ K := by intro e; rw [e, hk] at hg; cases hg
    exact .inr ⟨g, cap, cur, hv, hbg, (Lib.iterAt_other w K g s pos' hne).trans hg, r⟩
theorem ownsRow_ne_iter {w : World} {B K pos e size n : Nat} {s : ByteArray} {v : Value} {xs : List Value} (h : w.ownsRow B e size v n xs) (hk : w.heap[K]? = some (.stringIter s pos)) : v.ownBlock ≠ some K := by
  intro e
  rcases h.2 with ⟨hn, -⟩ | ⟨g, cap, cur, hv, -, hg, -⟩
  · rw [hn] at e; simp [Value.ownBlock] at e
  · rw [hv] at e
    simp only [Value.ownBlock, Option.some.injEq] at e
    rw [e, hk] at hg; cases hg

/-- Gathered so far. -/
structure RelB (s : ByteArray) (w : World) (K : Nat) (v : Value) (wr : World) (pos k : Nat) (done : List Value) : Prop where
  iter : wr.heap[K]? = some (.stringIter s pos)
  low : w.heap.size ≤ K
  below : Below w.heap.size w wr
  row : wr.ownsRow w.heap.size 121 2 v k done
  said : done ++ lcells s.size (rest s pos) = lcells s.size (letters s)
  num : k + (rest s pos).length = (letters s).length
  text : badFrom s pos = none
  pos_ : pos ≤ s.size

theorem relB_step {s : ByteArray} {w : World} {K pos d r k : Nat} {v v' : Value} {wr w' : World} {done : List Value} {o : Obj} (h : RelB s w K v wr pos k done) (hp : pos < s.size) (hd : Utf8.decode s pos = (r, d))
    (hown : w'.ownsRow w.heap.size 121 2 v' (k + 1) (done ++ [.int .i32 (r : Int), .int .i64 (pos : Int)])) (hg : ((wr.iterAt K s (pos + d)).alloc o).grownBy w' v.ownBlock) :
    RelB s w K v' w' (pos + d) (k + 1) (done ++ [.int .i32 (r : Int), .int .i64 (pos : Int)]) := by
  have hlt : K < wr.heap.size := (Array.getElem?_eq_some_iff.1 h.iter).1
  have hsz := Lib.iterAt_size wr K s (pos + d)
  have hi : w'.heap[K]? = some (.stringIter s (pos + d)) := by
    rw [hg.block K (by simp; omega) (fun e => ownsRow_ne_iter h.row h.iter e.symm), Below.heap_alloc _ _ _ (by omega)]
    exact Lib.iterAt_heap wr K s pos (pos + d) h.iter
  have hbad := h.text
  rw [badFrom_step s pos hp] at hbad
  have hb0 : bad s pos = false := by
    cases hbd : bad s pos with
    | true => rw [hbd] at hbad; simp at hbad
    | false => rfl
  rw [hb0, hd] at hbad
  have hw := width_le s pos hp
  rw [hd] at hw
  have ht := rest_text s s.size pos (by omega) (by omega) h.text
  have hst := rest_step s pos hp
  rw [hd] at hst
  simp only at hst hw
  have hs := h.said
  have hnum := h.num
  refine ⟨hi, h.low, ?_, hown, ?_, ?_, by simpa using hbad, hw⟩
  · have b1 := Lib.below_iterAt h.below h.low s (pos + d)
    have b2 := b1.alloc (by have := h.below.size; omega) o
    refine b2.grown hg (by have := h.below.size; simp; omega) ?_
    intro j e
    exact (World.ownsRow.lt h.row j e).1
  · rw [← hs]
    have h1 := ht.1
    rw [hst] at h1 ⊢
    rw [List.append_assoc]
    congr 1
    simp only [lcells, List.cons_append, List.nil_append, List.cons.injEq, true_and, and_true]
    rw [h1]
    congr 2
    omega
  · rw [hst, List.length_cons] at hnum
    omega

set_option maxHeartbeats 1000000 in
set_option maxRecDepth 100000 in
theorem read_any (s : ByteArray) (w : World) (hs : s.size ≤ 2000) (ht : isText s = true) :
    Calls Tryz.prog 40 #[.string s] w fun e w' => ∃ X G, e = .returned (.pointer (some ⟨X, 0, none⟩)) ∧ Rd w' X G s.size (letters s) ∧ Below w.heap.size w w' ∧ w.heap.size ≤ X ∧ w.heap.size ≤ G := by
  have hl := letters_length s
  obtain ⟨N, hN⟩ : ∃ N, (letters s).length = N := ⟨_, rfl⟩
  have hc := count_any s w (by omega)
  rw [hN] at hc hl
  have HL := Lib.hid (show N ≤ 2000 by omega)
  have hNi : (N : Int) ≤ 2000 := by omega
  have hN0 : (0 : Int) ≤ (N : Int) := by omega
  have HN := Lib.hid hN
  have HG := Lib.hid (text_good ht).2
  have HTX := Lib.hid (text_none ht)
  have HSZ := Lib.hid hs
  have hsi : (s.size : Int) ≤ 2000 := by omega
  clear hl hN hs ht
  obtain ⟨i0, hi, hz0, hz1, hz2⟩ := info_parts infoLetter
  have B2 := Lib.hid (show i0.bytes * (N + 1) ≤ 281474976710656 by rw [hz2]; have := HL.out; omega)
  have B3 := Lib.hid (show N + 1 ≤ maxLen by have := HL.out; unfold maxLen; omega)
  go_enter Tryz.func40, Tryz.ntmps40
  go_wp2_with fail
  refine hc.mono ?_
  rintro e w1 ⟨rfl, hb1⟩
  have H1 := Lib.hid hb1
  clear hb1 hc
  go_wp2_with (at_make; refine wpList_make_own _ rfl _ _ 118 rfl w.heap.size 121 i0 (.agg #[.int .i32 0, .int .i64 0]) 2 Tryz.underlying118 hi hz0 hz1 .i64 .i64 _ (N + 1) rfl rfl rfl B2.out B3.out H1.out.size ?_; intro w2 hown2 hg2)
  have H2 := Lib.hid (H1.out.grown hg2 H1.out.size (fun k e => by cases e))
  have O2 := Lib.hid hown2
  clear hown2 hg2
  have HK := Lib.hid (show w.heap.size ≤ w2.heap.size from H2.out.size)
  go_loopw [3] (fun v wr => ∃ pos k done, RelB s w w2.heap.size v wr pos k done) (fun _ wr => s.size - wr.iterPos w2.heap.size)
  case atStart =>
    exact ⟨0, 0, [], World.iter_heap w2 s 0, HK.out, H2.out.alloc HK.out _, World.ownsRow.kept (row := none) O2.out ⟨rfl, rfl, rfl, (below_iter w2 s 0).size, fun k hk _ => (below_iter w2 s 0).block k hk⟩ (.inr (by simp [Value.ownBlock])), rfl, by rw [rest_zero, Nat.zero_add], by rw [badFrom_zero]; exact HTX.out, Nat.zero_le _⟩
  case round =>
    obtain ⟨pos, k, done, hR⟩ := hrel
    obtain ⟨K, hKe⟩ : ∃ K, w2.heap.size = K := ⟨_, rfl⟩
    rw [hKe] at hR ⊢
    have HKK := Lib.hid (show w.heap.size ≤ K by rw [← hKe]; exact HK.out)
    clear hKe
    have HR := Lib.hid hR
    have hit := hR.iter
    have hnum : k ≤ 2000 := by have := hR.num; have := HN.out; have := HL.out; omega
    clear hR
    by_cases hp : pos < s.size
    · obtain ⟨r, d, hd⟩ : ∃ r d, Utf8.decode s pos = (r, d) := ⟨_, _, rfl⟩
      have hnx : ∀ ty, (Instr.next (.pointer (some ⟨K, 0, none⟩)) true ty).run Tryz.prog wr = .ok (.tuple #[.bool true, .int .i64 pos, .int .i32 (r : Int)]) (wr.iterAt K s (pos + d)) := fun ty => by rw [Lib.run_next_any_at wr K s pos ty hit hp, hd]
      have hwd := width_pos s pos hp
      rw [hd] at hwd
      have HW := Lib.hid (And.intro hp (And.intro hwd hd))
      have C3 := Lib.hid (show k + 1 ≤ maxLen by unfold maxLen; omega)
      have C4 := Lib.hid (show (k + 1) * 16 ≤ 140737488355328 by omega)
      have C5 := Lib.hid (show w.heap.size ≤ ((wr.iterAt K s (pos + d)).alloc (.cells #[.int .i32 (r : Int), .int .i64 (pos : Int)] 121)).heap.size by simp only [World.size_alloc, Lib.iterAt_size]; have := HR.out.below.size; omega)
      have CO := Lib.hid (World.ownsRow.alloc (ownsRow_iterAt (pos' := pos + d) HR.out.row hit) (.cells #[.int .i32 (r : Int), .int .i64 (pos : Int)] 121))
      have C1 := Lib.hid (fun (j : Nat) (u : Value) (hj : [Value.int .i32 (r : Int), .int .i64 (pos : Int)][j]? = some u) => (show ((wr.iterAt K s (pos + d)).alloc (.cells #[.int .i32 (r : Int), .int .i64 (pos : Int)] 121)).cell? ((⟨(wr.iterAt K s (pos + d)).heap.size, 0, none⟩ : Addr).add j) = some u from World.news_of_block (heap_alloc_new (wr.iterAt K s (pos + d)) (.cells #[.int .i32 (r : Int), .int .i64 (pos : Int)] 121)) j u hj))
      clear hd hwd hp hit
      go_wp2_with (at_builtin; refine wpList_append_own _ rfl _ _ 118 rfl w.heap.size 121 i0 (.agg #[.int .i32 0, .int .i64 0]) 2 16 Tryz.underlying118 hi hz0 hz1 hz2 rfl (by decide) _ _ _ rfl CO.out ⟨(wr.iterAt K s (pos + d)).heap.size, 0, none⟩ 1 1 [.int .i32 (r : Int), .int .i64 (pos : Int)] rfl rfl C1.out (by intro u hu; simp at hu; rcases hu with rfl | rfl <;> rfl) C3.out C4.out C5.out ?_; intro v' w3 hown3 hg3 hn3)
      have R := relB_step HR.out HW.out.1 HW.out.2.2 hown3 hg3
      refine ⟨⟨_, _, _, R⟩, ?_⟩
      have e1 : w3.iterPos K = pos + d := by unfold World.iterPos; rw [R.iter]
      have e2 : wr.iterPos K = pos := by unfold World.iterPos; rw [HR.out.iter]
      rw [e1, e2]
      have := HW.out
      omega
    · have hnx : ∀ ty, (Instr.next (.pointer (some ⟨K, 0, none⟩)) true ty).run Tryz.prog wr = _ := fun ty => Lib.run_next_end_at wr K s pos ty hit hp
      have hsd := HR.out.said
      have hnm := HR.out.num
      rw [rest_end s pos hp] at hsd hnm
      have HSD := Lib.hid (And.intro hsd hnm)
      have C3 := Lib.hid (show k + 1 ≤ maxLen by unfold maxLen; omega)
      have C4 := Lib.hid (show (k + 1) * 16 ≤ 140737488355328 by omega)
      have C5 := Lib.hid (show w.heap.size ≤ (wr.alloc (.cells #[.int .i32 0, .int .i64 (s.size : Int)] 121)).heap.size by simp only [World.size_alloc]; have := HR.out.below.size; omega)
      have CO := Lib.hid (World.ownsRow.alloc HR.out.row (.cells #[.int .i32 0, .int .i64 (s.size : Int)] 121))
      have C1 := Lib.hid (fun (j : Nat) (u : Value) (hj : [Value.int .i32 0, .int .i64 (s.size : Int)][j]? = some u) => (show (wr.alloc (.cells #[.int .i32 0, .int .i64 (s.size : Int)] 121)).cell? ((⟨wr.heap.size, 0, none⟩ : Addr).add j) = some u from World.news_of_block (heap_alloc_new wr (.cells #[.int .i32 0, .int .i64 (s.size : Int)] 121)) j u hj))
      clear hsd hnm hp hit
      go_wp2_with (at_builtin; refine wpList_append_lies _ rfl _ _ 118 rfl w.heap.size 121 i0 (.agg #[.int .i32 0, .int .i64 0]) 2 16 Tryz.underlying118 hi hz0 hz1 hz2 rfl (by decide) _ _ _ rfl CO.out ⟨wr.heap.size, 0, none⟩ 1 1 [.int .i32 0, .int .i64 (s.size : Int)] rfl rfl C1.out (by intro u hu; simp at hu; rcases hu with rfl | rfl <;> rfl) (by decide) C3.out C4.out C5.out (wr.heap.size + 1) (by simp) ?_; intro g cap w3 hown3 hg3 hat3 hlt3; have H3 := Lib.hid (And.intro hown3 (And.intro hg3 (And.intro hat3 hlt3))); clear hown3 hg3 hat3 hlt3)
      go_ret
      obtain ⟨hown, hg, hat, hlt⟩ := H3.out
      obtain ⟨hsd, hnm⟩ := HSD.out
      have hk : k = (letters s).length := by simpa using hnm
      have hown2 : w3.ownsRow w.heap.size 121 2 (.slice (some ⟨g, 0, none⟩) (k + 1) cap) (k + 1) (lcells s.size (letters s)) := by rw [← hsd]; exact hown
      have hlen := hown2.1
      have hcap : k + 1 ≤ cap := by
        rcases hown2.2 with ⟨hv, _⟩ | ⟨g', cap', cur, hv, _, _, hc, _⟩
        · cases hv
        · cases hv; exact hc
      have hgw := World.ownsRow.lt hown2 g rfl
      have hb3 : Below w.heap.size w w3 := (HR.out.below.alloc HR.out.below.size _).grown hg C5.out (fun j e => (World.ownsRow.lt CO.out j e).1)
      refine ⟨w3.heap.size, g, rfl, ⟨0, cap, ?_⟩, hb3.alloc hb3.size _, hb3.size, hgw.1⟩
      refine { head := by rw [← hk]; exact heap_alloc_new w3 _, cap := by rw [← hk]; exact hcap, row := fun j v hj => ?_, ne := by omega, good := HG.out, few := by rw [HN.out]; exact HL.out }
      have hj2 := (List.getElem?_eq_some_iff.1 hj).1
      rw [World.cell?_alloc_lt _ _ _ hgw.2, Nat.zero_add, hown2.cellAt j (by omega)]
      exact hj
end Go.Proofs.YtakceggnadagmaaGreatDoor

namespace Go.Proofs.YtakceggnadagmaaGreatDoor
open Go Go.RowKit GlyphMath LexMath

/-! ### what a token takes -/
theorem skip_suf (xs : List Nat) : Suf xs (skipM xs) := by
  unfold skipM
  split
  · exact (Suf.left _ _).trans (Suf.left _ _)
  · exact Suf.left _ _
theorem skip_next (xs : List Nat) : skipM xs = [] ∨ (next (skipM xs) ≠ 32 ∧ next (skipM xs) ≠ 9) := by
  unfold skipM
  split
  · rcases left_head (fun r => r == 10) (left (fun r => r != 32 && r != 9) xs) with h | h
    · exact .inl h
    · right
      have e : next (left (fun r => r == 10) (left (fun r => r != 32 && r != 9) xs)) = 10 := by simpa using h
      rw [e]; decide
  · rcases left_head (fun r => r != 32 && r != 9) xs with h | h
    · exact .inl h
    · right; simpa using h




/-! ### Rows of tokens -/



theorem tokCells_length : ∀ (ts : List Tk) (us : List Value), ts.length = us.length → (tokCells ts us).length = ts.length * 4
  | [], [], _ => rfl
  | t :: ts, u :: us, h => by
    rw [tokCells, List.length_append, tokCells_length ts us (by simpa using h), List.length_cons]
    simp only [tcells, List.length_cons, List.length_nil]; omega
  | [], _ :: _, h => by simp at h
  | _ :: _, [], h => by simp at h
end Go.Proofs.YtakceggnadagmaaGreatDoor

namespace Go.Proofs.YtakceggnadagmaaGreatDoor
open Go Go.RowKit GlyphMath LexMath


/-- What Tokens is doing. -/
structure LAt (w wr : World) (X G sz : Nat) (M : Except (Nat × Nat) (List Tk)) (f : Nat) (ys : List Nat) (v : Value) (us : List Value) (F : Nat → Prop) (ts : List Tk) : Prop where
  rd : Rd wr X G sz ys
  signs : Signs wr
  row : TokO wr w.heap.size X v us F ts
  apart : v.ownBlock ≠ some G
  below : Below w.heap.size w wr
  said : tokensL sz f ys ts = M
  fuel : ys.length < f
  few : ts.length + ys.length ≤ 4000







theorem block_first {w5 w7 : World} {t1 t2 t3 t4 : Value} {o2 : Obj} {T : TypeId} {ob : Option Nat} (hg : ((w5.alloc (.cells #[t1, t2, t3, t4] T)).alloc o2).grownBy w7 ob) (hne : ob ≠ some w5.heap.size) : w7.cell? ⟨w5.heap.size, 0, none⟩ = some t1 := by
  have hb : w7.heap[w5.heap.size]? = some (.cells #[t1, t2, t3, t4] T) :=
    (hg.block w5.heap.size (by simp; omega) (fun e => hne e.symm)).trans ((Below.heap_alloc _ _ _ (by simp)).trans (heap_alloc_new w5 _))
  exact World.news_of_block hb 0 t1 rfl

theorem tok_step {w w3 w5 w7 : World} {X G sz k g cap : Nat} {v u v' : Value} {us : List Value} {F : Nat → Prop} {ts : List Tk} {t : Tk} {T : ByteArray} {r zs : List Nat} {o1 o2 : Obj}
    (hw : 0 < w.heap.size) (hX : w.heap.size ≤ X) (hrow : TokO w3 w.heap.size X v us F ts) (hap : v.ownBlock ≠ some G) (hb : Below w.heap.size w w3) (hsg : Signs w3) (hr3 : Rd w3 X G sz zs)
    (hk : ts.length = k) (hT : txt t.text = .string T) (hwn : WordN w5 w3.heap.size u t.word) (hr5 : Rd w5 X G sz r) (hk5 : Kept (fun k => k = X) w3 w5)
    (hown : w7.ownsRow w.heap.size 72 4 (.slice (some ⟨g, 0, none⟩) (k + 1) cap) (k + 1) (tokCells ts us ++ [.int .i64 t.kind, .string T, u, .int .i64 (t.at_ : Int)])) (hgr : ((w5.alloc o1).alloc o2).grownBy w7 v'.ownBlock) (hat : v'.ownBlock = some g ∨ g = w5.heap.size + 2) (hv : v'.ownBlock = v.ownBlock) :
    Below w.heap.size w w7 ∧ Rd w7 X G sz r ∧ Signs w7 ∧ (Value.slice (some ⟨g, 0, none⟩) (k + 1) cap).ownBlock ≠ some G ∧ ∃ us' F', TokO w7 w.heap.size X (.slice (some ⟨g, 0, none⟩) (k + 1) cap) us' F' (ts ++ [t]) := by
  subst hk
  rw [hv] at hgr hat
  have hb5 : Below w.heap.size w w5 := below_kept hb hk5 (fun i e => by omega) hb.size
  have s35 := hk5.size
  have hlt3 : ∀ j, v.ownBlock = some j → w.heap.size ≤ j ∧ j < w3.heap.size := fun j e => World.ownsRow.lt hrow.own j e
  have hk6 : Kept (fun _ => False) w5 (w5.alloc o1) := Kept.of_below ((Below.refl _ w5).alloc (Nat.le_refl _) _)
  have hk62 : Kept (fun _ => False) w5 ((w5.alloc o1).alloc o2) := Kept.of_below (((Below.refl _ w5).alloc (Nat.le_refl _) _).alloc (by simp) _)
  have hrow6 := (hrow.kept hk5 (fun i _ _ hne e => hne e)).kept hk6 (fun _ _ _ _ h => h)
  have hsz6 : (w5.alloc o1).heap.size = w5.heap.size + 1 := by simp
  have hk57 : Kept (fun i => v.ownBlock = some i) w5 w7 := ⟨hgr.os.trans hk62.os, hgr.tape.trans hk62.tape, hgr.output.trans hk62.output, Nat.le_trans hk62.size hgr.size, fun i hi hn => (hgr.block i (by simp; omega) (fun e => hn e.symm)).trans (hk62.block i hi (fun h => h))⟩
  refine ⟨below_kept hb5 hk57 (fun i hi => (hlt3 i hi).1) hb5.size, hr5.kept hk57 hrow.ne hap, (hsg.kept hk5 (fun e => by omega)).kept hk57 (fun e => by have := (hlt3 _ e).1; omega), ?_, ?_⟩
  · simp only [Value.ownBlock, ne_eq, Option.some.injEq]
    intro e
    rcases hat with h | h
    · exact hap (by rw [h, e])
    · have := hr5.lt.2; omega
  · obtain ⟨F', h⟩ := TokO.add hrow6 (by have := hr5.lt.1; omega) (hwn.kept hk6 (fun _ _ h => h)) (by have := hb.size; omega) hr3.lt.1 (fun j e => (hlt3 j e).2) (by rw [tcells, hT]; exact hown) hgr (by rw [hsz6]; exact hat)
    exact ⟨_, F', h⟩

set_option maxHeartbeats 1000000 in
set_option maxRecDepth 100000 in
theorem tokens_in (s : ByteArray) (w : World) (hs : s.size ≤ 2000) (ht : isText s = true) (hS : Signs w) :
    Calls Tryz.prog 18 #[.string s] w fun e w' => TksEnd w w' e s.size (tokensL s.size ((letters s).length + 1) (letters s) []) := by
  have HV := Lib.hid (show _ from by have := valid_any s w; rw [ht] at this; exact this)
  have hsi : ¬ (2000 : Int) < (s.size : Int) := by omega
  have HS := Lib.hid hs
  have HT := Lib.hid ht
  have HSG := Lib.hid hS
  have hw0 : 0 < w.heap.size := World.block_lt_of_cell? w _ (hS 0 _ rfl)
  have HW0 := Lib.hid hw0
  obtain ⟨M, hM⟩ : ∃ M, tokensL s.size ((letters s).length + 1) (letters s) [] = M := ⟨_, rfl⟩
  rw [hM]
  have HM := Lib.hid hM
  obtain ⟨i0, hi, hz0, hz1, hz2⟩ := info_parts infoTok
  obtain ⟨P, hP⟩ : ∃ P : Int, (place s : Int) = P := ⟨_, rfl⟩
  rw [hP] at HV
  clear hs ht hS hw0 hM hP
  go_enter Tryz.func18, Tryz.ntmps18
  go_wp2_with fail
  refine HV.out.mono ?_
  rintro e w1 ⟨rfl, hb1⟩
  have H1 := Lib.hid hb1
  clear hb1
  go_wp2_with fail
  refine (read_any s w1 HS.out HT.out).mono ?_
  rintro e w2 ⟨X, G, rfl, hr2, hb2, hX2, hG2⟩
  have HXG := Lib.hid (show w.heap.size ≤ X ∧ w.heap.size ≤ G by have := H1.out.size; omega)
  have hB2 : Below w.heap.size w w2 := H1.out.trans (hb2.mono H1.out.size)
  have HA0 := Lib.hid (show LAt w w2 X G s.size M ((letters s).length + 1) (letters s) (.slice none 0 0) [] (fun _ => False) [] from
    ⟨hr2, HSG.out.kept (D := fun _ => False) (Kept.of_below hB2) (fun h => h), TokO.nil _ _ _, by simp [Value.ownBlock], hB2, HM.out, by omega, by have := hr2.few; simp; omega⟩)
  clear hr2 hb2 hX2 hG2 hB2
  go_wp2_with fail
  go_loopw [2] (fun v wr => ∃ f ys us F ts, LAt w wr X G s.size M f ys v us F ts) (fun _ wr => lenAt wr X)
  case atStart => exact ⟨_, _, _, _, _, HA0.out⟩
  case round =>
    obtain ⟨f, ys, us, F, ts, hA⟩ := hrel
    obtain ⟨f, rfl⟩ : ∃ g, f = g + 1 := ⟨f - 1, by have := hA.fuel; omega⟩
    obtain ⟨a, c, hv⟩ := hA.row.shape
    subst hv
    have HA := Lib.hid hA
    obtain ⟨k, hk⟩ : ∃ k, ts.length = k := ⟨_, rfl⟩
    have HK := Lib.hid hk
    rw [hk]
    have hki : (k : Int) ≤ 4000 := by have := hA.few; omega
    have hk0 : (0 : Int) ≤ (k : Int) := by omega
    clear hA hk
    obtain ⟨zs, hzs⟩ : ∃ zs, skipM ys = zs := ⟨_, rfl⟩
    have HZ := Lib.hid hzs
    obtain ⟨n, hn⟩ : ∃ n, s.size - (enc zs).length = n := ⟨_, rfl⟩
    have HNN := Lib.hid hn
    obtain ⟨m, hm⟩ : ∃ m, tokM n zs = m := ⟨_, rfl⟩
    have HMM := Lib.hid hm
    clear hzs hn hm
    go_wp2_with (first
      | (go_at_call 41; refine (skip_any HA.out.rd).mono ?_; rintro e w3 ⟨rfl, hs3⟩; rw [HZ.out] at hs3; have HS3 := Lib.hid hs3; clear hs3)
      | (go_at_call 42; refine (at_any HS3.out.1).mono ?_; rintro e w4 ⟨rfl, rfl⟩; rw [HNN.out]))
    have hsg3 : Signs w3 := HA.out.signs.kept HS3.out.2 (fun e => by have h1 := HXG.out.1; have h2 := HW0.out; omega)
    have htk := token_any HS3.out.1 hsg3
    rw [HNN.out, HMM.out] at htk
    refine htk.mono ?_
    have hrow3 := HA.out.row.kept HS3.out.2 (fun i _ _ hne e => hne e)
    have hbel3 := below_kept HA.out.below HS3.out.2 (fun i e => by have := HXG.out.1; omega) HA.out.below.size
    have H3 := Lib.hid (And.intro hsg3 (And.intro hrow3 hbel3))
    clear htk hsg3 hrow3 hbel3
    rcases m with cc | ⟨t, r⟩
    · rintro e w5 ⟨hcc, rfl, hk5⟩
      have H5 := Lib.hid (And.intro hcc hk5)
      have hc0 : (((cc : Nat) : Int) != 0) = true := by rcases hcc with rfl | rfl <;> rfl
      clear hcc hk5
      rw [show tokV ⟨0, [], [], 0⟩ zeroV = .agg #[.int .i64 0, .string ⟨#[]⟩, .slice none 0 0, .int .i64 0] from rfl]
      go_wp2_with fail
      go_ret3
      have hz : zs ≠ [] := by
        intro hz
        have h := HMM.out
        rw [tokM, if_pos hz] at h
        cases h
      have hm := HA.out.said
      have ht : tokenM (s.size - (enc (skipM ys)).length) (skipM ys) = .error cc := by
        have h := HMM.out
        rw [tokM, if_neg hz] at h
        rw [HZ.out, HNN.out, h]
      rw [tokensL_bad (by rw [HZ.out]; exact hz) ht, HZ.out, HNN.out] at hm
      rw [← hm]
      exact ⟨H5.out.1, rfl, (below_kept H3.out.2.2 H5.out.2 (fun i e => by have := HXG.out.1; omega) H3.out.2.2.size).alloc (by have := H3.out.2.2.size; have := H5.out.2.size; omega) _⟩
    · rintro e w5 ⟨u, rfl, hwn, hr5, hk5⟩
      have hkk : k ≤ 4000 := by omega
      obtain ⟨T, hT⟩ : ∃ T : ByteArray, txt t.text = .string T := ⟨_, rfl⟩
      obtain ⟨ad, cp, hu⟩ := hwn.shape
      obtain ⟨np, hnp⟩ : ∃ np, t.word.length = np := ⟨_, rfl⟩
      rw [hnp] at hu
      subst hu
      rw [show tokV t (.slice ad np cp) = .agg #[.int .i64 t.kind, .string T, .slice ad np cp, .int .i64 (t.at_ : Int)] by rw [tokV, hT]]
      have H5 := Lib.hid (And.intro hT (And.intro hwn (And.intro hr5 hk5)))
      have hrow5 := H3.out.2.1.kept hk5 (fun i _ _ hne e => hne e)
      have hown5 := hrow5.own
      rw [HK.out] at hown5
      have HR5 := Lib.hid hrow5
      have HO := Lib.hid (show ∀ o1 o2, ((w5.alloc o1).alloc o2).ownsRow w.heap.size 72 4 (.slice a k c) k (tokCells ts us) from fun o1 o2 => (hown5.alloc o1).alloc o2)
      have HC := Lib.hid (show k + 1 ≤ maxLen ∧ (k + 1) * 56 ≤ 140737488355328 ∧ w.heap.size ≤ w5.heap.size from ⟨by unfold maxLen; omega, by omega, by have := H3.out.2.2.size; have := hk5.size; omega⟩)
      have HNEW := Lib.hid (show ∀ (o1 : Obj) (j : Nat) (x : Value), [Value.int .i64 t.kind, .string T, .slice ad np cp, .int .i64 (t.at_ : Int)][j]? = some x → ((w5.alloc o1).alloc (.cells #[.int .i64 t.kind, .string T, .slice ad np cp, .int .i64 (t.at_ : Int)] 72)).cell? ((⟨w5.heap.size + 1, 0, none⟩ : Addr).add j) = some x from fun o1 j x hj => by
        have h := World.news_of_block (heap_alloc_new (w5.alloc o1) (.cells #[.int .i64 t.kind, .string T, .slice ad np cp, .int .i64 (t.at_ : Int)] 72)) j x hj
        rwa [show (w5.alloc o1).heap.size = w5.heap.size + 1 by simp] at h)
      have HC2 := Lib.hid (show ∀ (o1 o2 : Obj), w.heap.size ≤ ((w5.alloc o1).alloc o2).heap.size ∧ ((w5.alloc o1).alloc o2).heap.size = w5.heap.size + 2 from fun o1 o2 => ⟨by have := HC.out.2.2; simp; omega, by simp⟩)
      have HVB := Lib.hid (show (Value.slice a k c).ownBlock ≠ some w5.heap.size from fun e => by have := (World.ownsRow.lt hown5 _ e).2; omega)
      clear hT hwn hr5 hk5 hnp hrow5 hown5
      go_wp2_with (at_builtin; refine tok_append rfl _ _ rfl w.heap.size _ k _ rfl (HO.out _ _) ⟨w5.heap.size + 1, 0, none⟩ _ _ _ _ rfl (HNEW.out _) (by intro x hx; simp at hx; rcases hx with rfl | rfl | rfl | rfl <;> rfl) (by omega) (HC2.out _ _).1 (w5.heap.size + 2) (HC2.out _ _).2 ?_; intro g cap w7 hown7 hg7 hat7 hlt7; have hcell7 := block_first hg7 HVB.out; have H7 := Lib.hid (And.intro hown7 (And.intro hg7 (And.intro hat7 hlt7))); clear hown7 hg7 hat7 hlt7)
      · go_ret3
        have hkd : t.kind = 3 := by simpa using (‹(t.kind == 3) = true›)
        obtain ⟨hT, hwn, hr5, hk5⟩ := H5.out
        obtain ⟨hown7, hg7, hat7, hlt7⟩ := H7.out
        obtain ⟨hb7, hr7, hsg7, hap7, us', F', hrow7⟩ := tok_step HW0.out HXG.out.1 H3.out.2.1 HA.out.apart H3.out.2.2 H3.out.1 HS3.out.1 HK.out hT hwn hr5 hk5 hown7 hg7 hat7 (by rw [HK.out]; rfl)
        have hz : zs = [] := by
          apply Classical.byContradiction
          intro hz
          have h := HMM.out
          rw [tokM, if_neg hz] at h
          rcases skip_next ys with h2 | h2
          · exact hz (HZ.out.symm.trans h2)
          · rw [HZ.out] at h2
            exact (token_less HS3.out.1.good hz h2.1 h2.2 h).2 hkd
        have hm := HA.out.said
        have ht : t = ⟨3, [], [], s.size⟩ ∧ n = s.size := by
          have h := HMM.out
          have h2 := HNN.out
          rw [tokM, if_pos hz] at h
          rw [hz] at h2
          cases h
          exact ⟨by rw [← h2]; rfl, by rw [← h2]; rfl⟩
        rw [tokensL_end (HZ.out.trans hz), ← ht.1] at hm
        rw [← hm]
        refine ⟨_, X, us', F', ?_, hrow7, hb7⟩
        rw [ht.2]
        rfl
      · have hkd : t.kind ≠ 3 := by simpa using (‹(t.kind == 3) = false›)
        obtain ⟨hT, hwn, hr5, hk5⟩ := H5.out
        obtain ⟨hown7, hg7, hat7, hlt7⟩ := H7.out
        obtain ⟨hb7, hr7, hsg7, hap7, us', F', hrow7⟩ := tok_step HW0.out HXG.out.1 H3.out.2.1 HA.out.apart H3.out.2.2 H3.out.1 HS3.out.1 HK.out hT hwn hr5 hk5 hown7 hg7 hat7 (by rw [HK.out]; rfl)
        have hz : zs ≠ [] := by
          intro hz
          have h := HMM.out
          rw [tokM, if_pos hz] at h
          cases h
          exact hkd rfl
        have hl : Less zs r := by
          have h := HMM.out
          rw [tokM, if_neg hz] at h
          rcases skip_next ys with h2 | h2
          · exact absurd (HZ.out.symm.trans h2) hz
          · rw [HZ.out] at h2
            exact (token_less HS3.out.1.good hz h2.1 h2.2 h).1
        have hsuf := (skip_suf ys).len
        rw [HZ.out] at hsuf
        have hll := hl.2
        have hm := HA.out.said
        have ht : tokenM (s.size - (enc (skipM ys)).length) (skipM ys) = .ok (t, r) := by
          have h := HMM.out
          rw [tokM, if_neg hz] at h
          rw [HZ.out, HNN.out, h]
        rw [tokensL_go (by rw [HZ.out]; exact hz) ht] at hm
        have hfu := HA.out.fuel
        have hfe := HA.out.few
        refine ⟨⟨f, r, us', F', ts ++ [t], hr7, hsg7, hrow7, hap7, hb7, hm, by omega, by simp only [List.length_append, List.length_singleton]; omega⟩, ?_⟩
        rw [hr7.lenAt, HA.out.rd.lenAt]
        omega

/-- A text that is too long. -/
theorem tokens_long (s : ByteArray) (w : World) (hs : 2000 < s.size) :
    Calls Tryz.prog 18 #[.string s] w fun e w' => e = .returned (.tuple #[zeroV, .int .i64 0, .int .i64 3]) ∧ Below w.heap.size w w' := by
  have hsi : (2000 : Int) < (s.size : Int) := by omega
  clear hs
  go_enter Tryz.func18, Tryz.ntmps18
  go_wp2_with fail
  go_ret3
  exact ⟨rfl, Below.refl _ _⟩

/-- What is no text. -/
theorem tokens_bad (s : ByteArray) (w : World) (hs : s.size ≤ 2000) (ht : isText s = false) :
    Calls Tryz.prog 18 #[.string s] w fun e w' => e = .returned (.tuple #[zeroV, .int .i64 ((place s : Nat) : Int), .int .i64 2]) ∧ Below w.heap.size w w' := by
  have HV := Lib.hid (show _ from by have := valid_any s w; rw [ht] at this; exact this)
  have hsi : ¬ (2000 : Int) < (s.size : Int) := by omega
  obtain ⟨P, hP⟩ : ∃ P : Int, (place s : Int) = P := ⟨_, rfl⟩
  rw [hP] at HV ⊢
  clear hs ht hP
  go_enter Tryz.func18, Tryz.ntmps18
  go_wp2_with fail
  refine HV.out.mono ?_
  rintro e w1 ⟨rfl, hb1⟩
  have H1 := Lib.hid hb1
  clear hb1
  go_wp2_with fail
  go_ret3
  exact ⟨rfl, H1.out⟩
end Go.Proofs.YtakceggnadagmaaGreatDoor

namespace Go.Proofs.YtakceggnadagmaaGreatDoor
open Go Go.RowKit GlyphMath LexMath TreeMath

/-- A word that was made is one that can be read. -/
theorem WordV.ps {w : World} {F : Nat → Prop} {v : Value} {ps : List Pt} (h : WordV w F v ps) : PsAt w v ps := by
  induction h with
  | row v ps vs hown hl hF hs ih =>
    rcases hown.2 with ⟨rfl, h0⟩ | ⟨g, cap, cur, rfl, -, -, hle, hm, -⟩
    · have hp : ps = [] := List.eq_nil_of_length_eq_zero h0
      subst hp
      exact PsAt.nil w 0
    · have hc := hown.cellAt
      refine .mk (some ⟨g, 0, none⟩) cap ps vs hl.symm (by omega) (fun k q u hq hu => ⟨g, 0, rfl, fun i x hx => ?_⟩) ih
      have hi : i < 5 := (List.getElem?_eq_some_iff.1 hx).1
      have hk := (List.getElem?_eq_some_iff.1 hq).1
      have h5 := (hc (k * 5 + i) (by omega)).trans ((rowCells_get ps vs k q u hq hu hl i hi).trans hx)
      simpa [Nat.add_assoc] using h5
end Go.Proofs.YtakceggnadagmaaGreatDoor

namespace Go.Proofs.YtakceggnadagmaaGreatDoor
open Go Go.RowKit GlyphMath LexMath TreeMath ParseMath

/-- Tokens of a text, or the first place of an error and which. -/
def tokB (s : ByteArray) : Except (Nat × Nat) (List Tk) := if 2000 < s.size then .error (0, 3) else if isText s = false then .error (place s, 2) else tokensL s.size ((letters s).length + 1) (letters s) []
def TkEnd (w w' : World) (e : Ending) (s : ByteArray) : Prop := match tokB s with
  | .ok ts => ∃ G c, e = .returned (.tuple #[.slice (some ⟨G, 0, none⟩) ts.length c, .int .i64 (s.size : Int), .int .i64 0]) ∧ ts.length ≤ c ∧ ToksAt w' G 0 ts ∧ GoodS ⟨ts, 0, 0⟩ ∧ Below w.heap.size w w'
  | .error (n, c) => (c = 2 ∨ c = 3) ∧ e = .returned (.tuple #[zeroV, .int .i64 (n : Int), .int .i64 (c : Int)]) ∧ Below w.heap.size w w'
theorem WordV.cap {w : World} {F : Nat → Prop} {v : Value} {ps : List Pt} (h : WordV w F v ps) : CapOk v := by
  cases h with
  | row v ps vs hown hl hF hs =>
    rcases hown.2 with ⟨rfl, h0⟩ | ⟨g, cap, cur, rfl, -, -, hle, -⟩
    · exact ⟨none, 0, 0, rfl, Nat.le_refl _⟩
    · exact ⟨_, _, _, rfl, hle⟩
theorem ptok_any (s : ByteArray) (w : World) (hS : Signs w) : Calls Tryz.prog 18 #[.string s] w fun e w' => TkEnd w w' e s := by
  by_cases h1 : 2000 < s.size
  · refine (tokens_long s w h1).mono fun e w' ⟨he, hb⟩ => ?_
    unfold TkEnd tokB
    rw [if_pos h1]
    exact ⟨.inr rfl, he, hb⟩
  · cases h2 : isText s with
    | false =>
      refine (tokens_bad s w (by omega) h2).mono fun e w' ⟨he, hb⟩ => ?_
      unfold TkEnd tokB
      rw [if_neg h1, if_pos h2]
      exact ⟨.inl rfl, he, hb⟩
    | true =>
      obtain ⟨hg1, hg2⟩ := text_good h2
      refine (tokens_in s w (by omega) h2 hS).mono fun e w' he => ?_
      unfold TkEnd tokB
      rw [if_neg h1, if_neg (by rw [h2]; decide)]
      cases hm : tokensL s.size ((letters s).length + 1) (letters s) [] with
      | error x =>
        obtain ⟨n, c⟩ := x
        rw [hm] at he
        exact he
      | ok ts =>
        rw [hm] at he
        obtain ⟨v, X, us, F, he, ho, hb⟩ := he
        have hgood := tokens_good (by omega) hg2 (by have := letters_length s; omega) hm
        have hpos := hgood.pos
        obtain ⟨p, c, hv, hat⟩ := ho.at
        rcases ho.own.2 with ⟨_, h0⟩ | ⟨g, cap, cur, hv2, _, _, hle, _⟩
        · exact absurd hpos (by dsimp only; omega)
        · rw [hv] at hv2
          simp only [Value.slice.injEq, true_and] at hv2
          obtain ⟨rfl, rfl⟩ := hv2
          subst hv
          exact ⟨g, c, he, hle, fun k t hk => by
            obtain ⟨u, _, a1, a2⟩ := hat k t hk
            exact ⟨u, a1.ps, a2, a1.cap⟩, hgood, hb⟩
theorem results_cell_tmp2 {fn : Func} {p u v : Tmp} {ty : TypeId} (h : fn.results = #[.cell p ty, .tmp u, .tmp v]) (tmps : Array Value) (P : Program) (w : World) :
    (results fn tmps).run P w = ((asAddr (tmps.getD p undef)).run P w).andThen fun a w₁ => ((loadVar ty a).run P w₁).andThen fun x w₂ => .ok (.tuple #[x, tmps.getD u undef, tmps.getD v undef]) w₂ := by
  simp only [results, h]
  simp [Sem.run_bind, Result.andThen]
theorem prog_info : (Tryz.prog.info? 24).map (·.size) = some 2 := by kernel_rfl
theorem ret_prog {fn : Func} {p u v : Tmp} (hf : fn.results = #[.cell p 24, .tmp u, .tmp v]) {tmps : Array Value} {k : Nat} {cs : Array Value} {x y : Value} {w : World} {t : TypeId} {fr : Nat × Nat} (h : w.heap[k]? = some (.cells cs t fr)) (hc : cs.size = 2) (h2 : tmps.getD p undef = .pointer (some ⟨k, 0, none⟩)) (h3 : tmps.getD u undef = x) (h4 : tmps.getD v undef = y) :
    (results fn tmps).run Tryz.prog w = .ok (.tuple #[.agg cs, x, y]) w := by
  rw [results_cell_tmp2 hf, h2, h3, h4]
  have : (loadVar 24 ⟨k, 0, none⟩).run Tryz.prog w = .ok (.agg cs) w := run_loadVar_row (P := Tryz.prog) w k t 24 _ fr _ h Tryz.underlying24 rfl (by rw [prog_info, hc])
  simp [asAddr, Result.andThen, this]
end Go.Proofs.YtakceggnadagmaaGreatDoor
