/-
  Proved: the contract of a parser's compound. Conditions: the reader lies in memory.
-/
import Derived.Test.YtakceggnadagmaaGreatDoorParseSimple
namespace Go.Proofs.YtakceggnadagmaaGreatDoor
open Go Go.RowKit GlyphMath LexMath TreeMath ParseMath

theorem ret_tree2 {fn : Func} {p u : Tmp} (hf : fn.results = #[.cell p 56, .tmp u]) {tmps : Array Value} {k : Nat} {cs : List Value} {x : Value} {w : World} {t : TypeId} {fr : Nat × Nat} (h : w.heap[k]? = some (.cells cs.toArray t fr)) (hc : Cel 8 cs) (h2 : tmps.getD p undef = .pointer (some ⟨k, 0, none⟩)) (h3 : tmps.getD u undef = x) :
    (results fn tmps).run Tryz.prog w = .ok (.tuple #[.agg cs.toArray, x]) w := by
  rw [results_cell_tmp hf, h2, h3]
  have : (loadVar 56 ⟨k, 0, none⟩).run Tryz.prog w = .ok (.agg cs.toArray) w := run_loadVar_row (P := Tryz.prog) w k t 56 _ fr _ h Tryz.underlying56 rfl (by rw [node_info]; simp [hc.1])
  simp [asAddr, Result.andThen, this]
/-- What compound answers. -/
def CoEnd (w0 w w' : World) (e : Ending) (X : Nat) (S : PS) (m : Option (Tr × PS)) : Prop := match m with
  | some r => ∃ c, e = .returned (.tuple #[.agg c.toArray, .bool true]) ∧ (Cel 8 c ∧ c[6]? = some (.slice none 0 0) ∧ r.1.node.redirs = []) ∧ NewAt w0 w' w.heap.size (fun W => TrC W c r.1) ∧ PStep w0 w w' X r.2
  | none => e = .returned (.tuple #[.agg zeroN.toArray, .bool false]) ∧ PStep w0 w w' X S
/-- What was answered behind the text is what compound answers. -/
theorem co_some {w0 w w1 w2 : World} {X : Nat} {S : PS} {r : Tr × PS} {c : List Value} (hX : X < w.heap.size) (hX0 : w0.heap.size ≤ X) (hb : Below w.heap.size w w1) (hz : w.heap.size < w1.heap.size) (hc : Cel 8 c ∧ c[6]? = some (.slice none 0 0) ∧ r.1.node.redirs = []) (hn : NewAt w0 w2 w1.heap.size fun W => TrC W c r.1) (hs : PStep w0 w1 w2 X r.2) :
    CoEnd w0 w (w2.setRow w.heap.size c.toArray) (.returned (.tuple #[.agg c.toArray, .bool true])) X S (some r) := by
  have hk := kept_row0 w2 w.heap.size c.toArray
  exact ⟨c, rfl, hc, (hn.kept hk (fun k h1 h2 => by omega)).base (by omega), hs.1.kept hk (by omega) (fun i hi => by omega), ((Kept.of_below (D := fun k => k = X) hb).on hs.2).trans hk fun i hi => .inr (by omega)⟩

set_option maxHeartbeats 16000000 in
set_option maxRecDepth 10000 in
theorem pcompound_none {w0 w : World} {X : Nat} {S : PS} (d : Nat) (h : Pr w0 w X S) (hn : ∀ s ∈ [[123], [40], [105, 102], [119, 104, 105, 108, 101], [117, 110, 116, 105, 108], [102, 111, 114], [99, 97, 115, 101]], S.is s = false) :
    Calls Tryz.prog 156 #[.pointer (some ⟨X, 0, none⟩), .int .i64 (d : Int)] w fun e w' => CoEnd w0 w w' e X S none := by
  have HX := Lib.hid h.base
  have HP := Lib.hid (h.new (below_new w ZN))
  have HN := Lib.hid (pnext_any (h.new (below_new w ZN)))
  have HTX := Lib.hid (fun W (hW : Below w0.heap.size w0 W) p k (hu : PsAt w0 (.slice p S.hd.word.length k) S.hd.word) => text_any hW S.hd p k hu)
  obtain ⟨R, hR⟩ : ∃ R, T (textK S.hd) = R := ⟨_, rfl⟩
  have hl : textK S.hd = R.toList := by rw [← hR, Lib.toList_data]
  have hq : ∀ s, s ∈ [[123], [40], [105, 102], [119, 104, 105, 108, 101], [117, 110, 116, 105, 108], [102, 111, 114], [99, 97, 115, 101]] → (R.toList == s) = false := fun s hs => by rw [← hl]; exact hn s hs
  have q0 := hq [123] (by simp)
  have q1 := hq [40] (by simp)
  have q2 := hq [105, 102] (by simp)
  have q3 := hq [119, 104, 105, 108, 101] (by simp)
  have q4 := hq [117, 110, 116, 105, 108] (by simp)
  have q5 := hq [102, 111, 114] (by simp)
  have q6 := hq [99, 97, 115, 101] (by simp)
  rw [hR] at HTX
  clear h hn hq hl hR
  go_enter Tryz.func156, Tryz.ntmps156
  go_wp2_with (first
    | (go_at_call 45; refine HN.out.mono ?_; rintro en w1 ⟨p, k, rfl, hu, hb1⟩; have HB1 := Lib.hid (And.intro hb1 ((hb1.block w.heap.size (by simp)).trans (heap_alloc_new w ZN))); have HC := Lib.hid (HTX.out _ (HP.out.new hb1).below p k hu); clear hb1 hu)
    | (go_at_call 104; refine HC.out.mono ?_; rintro en w2 ⟨rfl, hb2⟩; have HB2 := Lib.hid (And.intro hb2 ((hb2.block w.heap.size (Array.getElem?_eq_some_iff.1 HB1.out.2).1).trans HB1.out.2)); clear hb2)
    | (refine wpList_store_row (by rfl) 56 (.tmp 4) (.tmp 43) (by rfl) w.heap.size zeroN.toArray (by rfl) (by rfl) 56 zeroN.toArray HB2.out.2 (by rw [node_info]; rfl) rfl (all_oneCell_toArray (ofC_cel _ _ _ _).2) ?_))
  (try simp only [Exit.inBlock, Exit.then])
  refine bodyPost_ret (ret_tree2 rfl (setRow_heap w2 w.heap.size zeroN.toArray _ 56 (0, 0) HB2.out.2) (ofC_cel _ _ _ _) rfl rfl) rfl ?_
  have hk := kept_row0 w2 w.heap.size zeroN.toArray
  have hx := HX.out
  refine ⟨rfl, ((HP.out.new HB1.out.1).new HB2.out.1).kept hk (by omega) (fun i hi => by omega), ((((Kept.of_below (D := fun k => k = X) (below_new w ZN)).on (Kept.of_below HB1.out.1)).on (Kept.of_below HB2.out.1))).trans hk fun i hi => .inr (by omega)⟩

set_option maxHeartbeats 16000000 in
set_option maxRecDepth 10000 in
theorem pcompound_brace {w0 w : World} {X : Nat} {S : PS} {cmd : Do} {d : Nat} (hd : d ≤ 100) (hc : CallDo w0 44 (listM cmd) (d + 1)) (h : Pr w0 w X S) (hi : S.is [123] = true) :
    Calls Tryz.prog 156 #[.pointer (some ⟨X, 0, none⟩), .int .i64 (d : Int)] w fun e w' => CoEnd w0 w w' e X S (some (enclosedM cmd [103, 114, 111, 117, 112] [125] S)) := by
  have HX := Lib.hid h.base
  have HP := Lib.hid (h.new (below_new w ZN))
  have HN := Lib.hid (pnext_any (h.new (below_new w ZN)))
  have HTX := Lib.hid (fun W (hW : Below w0.heap.size w0 W) p k (hu : PsAt w0 (.slice p S.hd.word.length k) S.hd.word) => text_any hW S.hd p k hu)
  rw [show textK S.hd = [123] by simpa [PS.is, PS.tx] using hi] at HTX
  have HC0 := Lib.hid (fun W (hW : Pr w0 W X S) => penclosed_any hd hc [103, 114, 111, 117, 112] [125] W X S hW)
  obtain ⟨r, hr⟩ : ∃ r, enclosedM cmd [103, 114, 111, 117, 112] [125] S = r := ⟨_, rfl⟩
  rw [hr] at HC0 ⊢
  clear h hi hc hr hd
  go_enter Tryz.func156, Tryz.ntmps156
  go_wp2_with (first
    | (go_at_call 45; refine HN.out.mono ?_; rintro en w1 ⟨p, k, rfl, hu, hb1⟩; have HB1 := Lib.hid (And.intro hb1 ((hb1.block w.heap.size (by simp)).trans (heap_alloc_new w ZN))); have HC := Lib.hid (HTX.out _ (HP.out.new hb1).below p k hu); clear hb1 hu)
    | (go_at_call 104; refine HC.out.mono ?_; rintro en w2 ⟨rfl, hb2⟩; have HB2 := Lib.hid (And.intro ((HP.out.new HB1.out.1).new hb2) (And.intro (((below_new w ZN).trans (HB1.out.1.mono (by simp))).trans (hb2.mono (by have := HB1.out.1.size; simp at this; omega))) ((hb2.block w.heap.size (Array.getElem?_eq_some_iff.1 HB1.out.2).1).trans HB1.out.2))); clear hb2)
    | (go_at_call 184; refine (HC0.out _ HB2.out.1).mono ?_; rintro en w3 ⟨c, rfl, hcel, hnew, hs⟩; have HS3 := Lib.hid (And.intro hcel (And.intro hnew (And.intro hs (hs.2.heap HB2.out.2.2 (by have := HX.out; omega))))); clear hcel hnew hs)
    | (refine wpList_store_row (by rfl) 56 (.tmp 4) (.tmp 15) (by rfl) w.heap.size c.toArray (by rfl) (by rfl) 56 zeroN.toArray HS3.out.2.2.2 (by rw [node_info]; simp [HS3.out.1.1.1]) (by simp [HS3.out.1.1.1, zeroN, ofC]) (all_oneCell_toArray HS3.out.1.1.2) ?_))
  (try simp only [Exit.inBlock, Exit.then])
  refine bodyPost_ret (ret_tree2 rfl (setRow_heap w3 w.heap.size zeroN.toArray _ 56 (0, 0) HS3.out.2.2.2) HS3.out.1.1 rfl rfl) rfl ?_
  exact co_some HX.out.2 HX.out.1 HB2.out.2.1 (Array.getElem?_eq_some_iff.1 HB2.out.2.2).1 HS3.out.1 HS3.out.2.1 HS3.out.2.2.1

set_option maxHeartbeats 16000000 in
set_option maxRecDepth 10000 in
theorem pcompound_paren {w0 w : World} {X : Nat} {S : PS} {cmd : Do} {d : Nat} (hd : d ≤ 100) (hc : CallDo w0 44 (listM cmd) (d + 1)) (h : Pr w0 w X S) (hi : S.is [40] = true) :
    Calls Tryz.prog 156 #[.pointer (some ⟨X, 0, none⟩), .int .i64 (d : Int)] w fun e w' => CoEnd w0 w w' e X S (some (enclosedM cmd [115, 117, 98] [41] S)) := by
  have HX := Lib.hid h.base
  have HP := Lib.hid (h.new (below_new w ZN))
  have HN := Lib.hid (pnext_any (h.new (below_new w ZN)))
  have HTX := Lib.hid (fun W (hW : Below w0.heap.size w0 W) p k (hu : PsAt w0 (.slice p S.hd.word.length k) S.hd.word) => text_any hW S.hd p k hu)
  rw [show textK S.hd = [40] by simpa [PS.is, PS.tx] using hi] at HTX
  have HC0 := Lib.hid (fun W (hW : Pr w0 W X S) => penclosed_any hd hc [115, 117, 98] [41] W X S hW)
  obtain ⟨r, hr⟩ : ∃ r, enclosedM cmd [115, 117, 98] [41] S = r := ⟨_, rfl⟩
  rw [hr] at HC0 ⊢
  clear h hi hc hr hd
  go_enter Tryz.func156, Tryz.ntmps156
  go_wp2_with (first
    | (go_at_call 45; refine HN.out.mono ?_; rintro en w1 ⟨p, k, rfl, hu, hb1⟩; have HB1 := Lib.hid (And.intro hb1 ((hb1.block w.heap.size (by simp)).trans (heap_alloc_new w ZN))); have HC := Lib.hid (HTX.out _ (HP.out.new hb1).below p k hu); clear hb1 hu)
    | (go_at_call 104; refine HC.out.mono ?_; rintro en w2 ⟨rfl, hb2⟩; have HB2 := Lib.hid (And.intro ((HP.out.new HB1.out.1).new hb2) (And.intro (((below_new w ZN).trans (HB1.out.1.mono (by simp))).trans (hb2.mono (by have := HB1.out.1.size; simp at this; omega))) ((hb2.block w.heap.size (Array.getElem?_eq_some_iff.1 HB1.out.2).1).trans HB1.out.2))); clear hb2)
    | (go_at_call 184; refine (HC0.out _ HB2.out.1).mono ?_; rintro en w3 ⟨c, rfl, hcel, hnew, hs⟩; have HS3 := Lib.hid (And.intro hcel (And.intro hnew (And.intro hs (hs.2.heap HB2.out.2.2 (by have := HX.out; omega))))); clear hcel hnew hs)
    | (refine wpList_store_row (by rfl) 56 (.tmp 4) (.tmp 20) (by rfl) w.heap.size c.toArray (by rfl) (by rfl) 56 zeroN.toArray HS3.out.2.2.2 (by rw [node_info]; simp [HS3.out.1.1.1]) (by simp [HS3.out.1.1.1, zeroN, ofC]) (all_oneCell_toArray HS3.out.1.1.2) ?_))
  (try simp only [Exit.inBlock, Exit.then])
  refine bodyPost_ret (ret_tree2 rfl (setRow_heap w3 w.heap.size zeroN.toArray _ 56 (0, 0) HS3.out.2.2.2) HS3.out.1.1 rfl rfl) rfl ?_
  exact co_some HX.out.2 HX.out.1 HB2.out.2.1 (Array.getElem?_eq_some_iff.1 HB2.out.2.2).1 HS3.out.1 HS3.out.2.1 HS3.out.2.2.1

set_option maxHeartbeats 16000000 in
set_option maxRecDepth 10000 in
theorem pcompound_if {w0 w : World} {X : Nat} {S : PS} {br : Do} {d : Nat} (hc : CallDoR w0 185 br d) (h : Pr w0 w X S) (hi : S.is [105, 102] = true) :
    Calls Tryz.prog 156 #[.pointer (some ⟨X, 0, none⟩), .int .i64 (d : Int)] w fun e w' => CoEnd w0 w w' e X S (some (br S)) := by
  have HX := Lib.hid h.base
  have HP := Lib.hid (h.new (below_new w ZN))
  have HN := Lib.hid (pnext_any (h.new (below_new w ZN)))
  have HTX := Lib.hid (fun W (hW : Below w0.heap.size w0 W) p k (hu : PsAt w0 (.slice p S.hd.word.length k) S.hd.word) => text_any hW S.hd p k hu)
  rw [show textK S.hd = [105, 102] by simpa [PS.is, PS.tx] using hi] at HTX
  have HC0 := Lib.hid (fun W (hW : Pr w0 W X S) => hc W X S hW)
  obtain ⟨r, hr⟩ : ∃ r, br S = r := ⟨_, rfl⟩
  rw [hr] at HC0 ⊢
  clear h hi hc hr
  go_enter Tryz.func156, Tryz.ntmps156
  go_wp2_with (first
    | (go_at_call 45; refine HN.out.mono ?_; rintro en w1 ⟨p, k, rfl, hu, hb1⟩; have HB1 := Lib.hid (And.intro hb1 ((hb1.block w.heap.size (by simp)).trans (heap_alloc_new w ZN))); have HC := Lib.hid (HTX.out _ (HP.out.new hb1).below p k hu); clear hb1 hu)
    | (go_at_call 104; refine HC.out.mono ?_; rintro en w2 ⟨rfl, hb2⟩; have HB2 := Lib.hid (And.intro ((HP.out.new HB1.out.1).new hb2) (And.intro (((below_new w ZN).trans (HB1.out.1.mono (by simp))).trans (hb2.mono (by have := HB1.out.1.size; simp at this; omega))) ((hb2.block w.heap.size (Array.getElem?_eq_some_iff.1 HB1.out.2).1).trans HB1.out.2))); clear hb2)
    | (go_at_call 185; refine (HC0.out _ HB2.out.1).mono ?_; rintro en w3 ⟨c, rfl, hcel, hnew, hs⟩; have HS3 := Lib.hid (And.intro hcel (And.intro hnew (And.intro hs (hs.2.heap HB2.out.2.2 (by have := HX.out; omega))))); clear hcel hnew hs)
    | (refine wpList_store_row (by rfl) 56 (.tmp 4) (.tmp 25) (by rfl) w.heap.size c.toArray (by rfl) (by rfl) 56 zeroN.toArray HS3.out.2.2.2 (by rw [node_info]; simp [HS3.out.1.1.1]) (by simp [HS3.out.1.1.1, zeroN, ofC]) (all_oneCell_toArray HS3.out.1.1.2) ?_))
  (try simp only [Exit.inBlock, Exit.then])
  refine bodyPost_ret (ret_tree2 rfl (setRow_heap w3 w.heap.size zeroN.toArray _ 56 (0, 0) HS3.out.2.2.2) HS3.out.1.1 rfl rfl) rfl ?_
  exact co_some HX.out.2 HX.out.1 HB2.out.2.1 (Array.getElem?_eq_some_iff.1 HB2.out.2.2).1 HS3.out.1 HS3.out.2.1 HS3.out.2.2.1

set_option maxHeartbeats 16000000 in
set_option maxRecDepth 10000 in
theorem pcompound_while {w0 w : World} {X : Nat} {S : PS} {cmd : Do} {d : Nat} (hd : d ≤ 100) (hc : CallDo w0 44 (listM cmd) (d + 1)) (h : Pr w0 w X S) (hi : S.is [119, 104, 105, 108, 101] = true) :
    Calls Tryz.prog 156 #[.pointer (some ⟨X, 0, none⟩), .int .i64 (d : Int)] w fun e w' => CoEnd w0 w w' e X S (some (loopM cmd [119, 104, 105, 108, 101] S)) := by
  have HX := Lib.hid h.base
  have HP := Lib.hid (h.new (below_new w ZN))
  have HN := Lib.hid (pnext_any (h.new (below_new w ZN)))
  have HTX := Lib.hid (fun W (hW : Below w0.heap.size w0 W) p k (hu : PsAt w0 (.slice p S.hd.word.length k) S.hd.word) => text_any hW S.hd p k hu)
  rw [show textK S.hd = [119, 104, 105, 108, 101] by simpa [PS.is, PS.tx] using hi] at HTX
  have HC0 := Lib.hid (fun W (hW : Pr w0 W X S) => ploop_any hd hc [119, 104, 105, 108, 101] W X S hW)
  obtain ⟨r, hr⟩ : ∃ r, loopM cmd [119, 104, 105, 108, 101] S = r := ⟨_, rfl⟩
  rw [hr] at HC0 ⊢
  clear h hi hc hr hd
  go_enter Tryz.func156, Tryz.ntmps156
  go_wp2_with (first
    | (go_at_call 45; refine HN.out.mono ?_; rintro en w1 ⟨p, k, rfl, hu, hb1⟩; have HB1 := Lib.hid (And.intro hb1 ((hb1.block w.heap.size (by simp)).trans (heap_alloc_new w ZN))); have HC := Lib.hid (HTX.out _ (HP.out.new hb1).below p k hu); clear hb1 hu)
    | (go_at_call 104; refine HC.out.mono ?_; rintro en w2 ⟨rfl, hb2⟩; have HB2 := Lib.hid (And.intro ((HP.out.new HB1.out.1).new hb2) (And.intro (((below_new w ZN).trans (HB1.out.1.mono (by simp))).trans (hb2.mono (by have := HB1.out.1.size; simp at this; omega))) ((hb2.block w.heap.size (Array.getElem?_eq_some_iff.1 HB1.out.2).1).trans HB1.out.2))); clear hb2)
    | (go_at_call 186; refine (HC0.out _ HB2.out.1).mono ?_; rintro en w3 ⟨c, rfl, hcel, hnew, hs⟩; have HS3 := Lib.hid (And.intro hcel (And.intro hnew (And.intro hs (hs.2.heap HB2.out.2.2 (by have := HX.out; omega))))); clear hcel hnew hs)
    | (refine wpList_store_row (by rfl) 56 (.tmp 4) (.tmp 32) (by rfl) w.heap.size c.toArray (by rfl) (by rfl) 56 zeroN.toArray HS3.out.2.2.2 (by rw [node_info]; simp [HS3.out.1.1.1]) (by simp [HS3.out.1.1.1, zeroN, ofC]) (all_oneCell_toArray HS3.out.1.1.2) ?_))
  (try simp only [Exit.inBlock, Exit.then])
  refine bodyPost_ret (ret_tree2 rfl (setRow_heap w3 w.heap.size zeroN.toArray _ 56 (0, 0) HS3.out.2.2.2) HS3.out.1.1 rfl rfl) rfl ?_
  exact co_some HX.out.2 HX.out.1 HB2.out.2.1 (Array.getElem?_eq_some_iff.1 HB2.out.2.2).1 HS3.out.1 HS3.out.2.1 HS3.out.2.2.1

set_option maxHeartbeats 16000000 in
set_option maxRecDepth 10000 in
theorem pcompound_until {w0 w : World} {X : Nat} {S : PS} {cmd : Do} {d : Nat} (hd : d ≤ 100) (hc : CallDo w0 44 (listM cmd) (d + 1)) (h : Pr w0 w X S) (hi : S.is [117, 110, 116, 105, 108] = true) :
    Calls Tryz.prog 156 #[.pointer (some ⟨X, 0, none⟩), .int .i64 (d : Int)] w fun e w' => CoEnd w0 w w' e X S (some (loopM cmd [117, 110, 116, 105, 108] S)) := by
  have HX := Lib.hid h.base
  have HP := Lib.hid (h.new (below_new w ZN))
  have HN := Lib.hid (pnext_any (h.new (below_new w ZN)))
  have HTX := Lib.hid (fun W (hW : Below w0.heap.size w0 W) p k (hu : PsAt w0 (.slice p S.hd.word.length k) S.hd.word) => text_any hW S.hd p k hu)
  rw [show textK S.hd = [117, 110, 116, 105, 108] by simpa [PS.is, PS.tx] using hi] at HTX
  have HC0 := Lib.hid (fun W (hW : Pr w0 W X S) => ploop_any hd hc [117, 110, 116, 105, 108] W X S hW)
  obtain ⟨r, hr⟩ : ∃ r, loopM cmd [117, 110, 116, 105, 108] S = r := ⟨_, rfl⟩
  rw [hr] at HC0 ⊢
  clear h hi hc hr hd
  go_enter Tryz.func156, Tryz.ntmps156
  go_wp2_with (first
    | (go_at_call 45; refine HN.out.mono ?_; rintro en w1 ⟨p, k, rfl, hu, hb1⟩; have HB1 := Lib.hid (And.intro hb1 ((hb1.block w.heap.size (by simp)).trans (heap_alloc_new w ZN))); have HC := Lib.hid (HTX.out _ (HP.out.new hb1).below p k hu); clear hb1 hu)
    | (go_at_call 104; refine HC.out.mono ?_; rintro en w2 ⟨rfl, hb2⟩; have HB2 := Lib.hid (And.intro ((HP.out.new HB1.out.1).new hb2) (And.intro (((below_new w ZN).trans (HB1.out.1.mono (by simp))).trans (hb2.mono (by have := HB1.out.1.size; simp at this; omega))) ((hb2.block w.heap.size (Array.getElem?_eq_some_iff.1 HB1.out.2).1).trans HB1.out.2))); clear hb2)
    | (go_at_call 186; refine (HC0.out _ HB2.out.1).mono ?_; rintro en w3 ⟨c, rfl, hcel, hnew, hs⟩; have HS3 := Lib.hid (And.intro hcel (And.intro hnew (And.intro hs (hs.2.heap HB2.out.2.2 (by have := HX.out; omega))))); clear hcel hnew hs)
    | (refine wpList_store_row (by rfl) 56 (.tmp 4) (.tmp 32) (by rfl) w.heap.size c.toArray (by rfl) (by rfl) 56 zeroN.toArray HS3.out.2.2.2 (by rw [node_info]; simp [HS3.out.1.1.1]) (by simp [HS3.out.1.1.1, zeroN, ofC]) (all_oneCell_toArray HS3.out.1.1.2) ?_))
  (try simp only [Exit.inBlock, Exit.then])
  refine bodyPost_ret (ret_tree2 rfl (setRow_heap w3 w.heap.size zeroN.toArray _ 56 (0, 0) HS3.out.2.2.2) HS3.out.1.1 rfl rfl) rfl ?_
  exact co_some HX.out.2 HX.out.1 HB2.out.2.1 (Array.getElem?_eq_some_iff.1 HB2.out.2.2).1 HS3.out.1 HS3.out.2.1 HS3.out.2.2.1

set_option maxHeartbeats 16000000 in
set_option maxRecDepth 10000 in
theorem pcompound_for {w0 w : World} {X : Nat} {S : PS} {cmd : Do} {d : Nat} (hc : CallDoR w0 187 (eachM cmd) d) (h : Pr w0 w X S) (hi : S.is [102, 111, 114] = true) :
    Calls Tryz.prog 156 #[.pointer (some ⟨X, 0, none⟩), .int .i64 (d : Int)] w fun e w' => CoEnd w0 w w' e X S (some (eachM cmd S)) := by
  have HX := Lib.hid h.base
  have HP := Lib.hid (h.new (below_new w ZN))
  have HN := Lib.hid (pnext_any (h.new (below_new w ZN)))
  have HTX := Lib.hid (fun W (hW : Below w0.heap.size w0 W) p k (hu : PsAt w0 (.slice p S.hd.word.length k) S.hd.word) => text_any hW S.hd p k hu)
  rw [show textK S.hd = [102, 111, 114] by simpa [PS.is, PS.tx] using hi] at HTX
  have HC0 := Lib.hid (fun W (hW : Pr w0 W X S) => hc W X S hW)
  obtain ⟨r, hr⟩ : ∃ r, eachM cmd S = r := ⟨_, rfl⟩
  rw [hr] at HC0 ⊢
  clear h hi hc hr
  go_enter Tryz.func156, Tryz.ntmps156
  go_wp2_with (first
    | (go_at_call 45; refine HN.out.mono ?_; rintro en w1 ⟨p, k, rfl, hu, hb1⟩; have HB1 := Lib.hid (And.intro hb1 ((hb1.block w.heap.size (by simp)).trans (heap_alloc_new w ZN))); have HC := Lib.hid (HTX.out _ (HP.out.new hb1).below p k hu); clear hb1 hu)
    | (go_at_call 104; refine HC.out.mono ?_; rintro en w2 ⟨rfl, hb2⟩; have HB2 := Lib.hid (And.intro ((HP.out.new HB1.out.1).new hb2) (And.intro (((below_new w ZN).trans (HB1.out.1.mono (by simp))).trans (hb2.mono (by have := HB1.out.1.size; simp at this; omega))) ((hb2.block w.heap.size (Array.getElem?_eq_some_iff.1 HB1.out.2).1).trans HB1.out.2))); clear hb2)
    | (go_at_call 187; refine (HC0.out _ HB2.out.1).mono ?_; rintro en w3 ⟨c, rfl, hcel, hnew, hs⟩; have HS3 := Lib.hid (And.intro hcel (And.intro hnew (And.intro hs (hs.2.heap HB2.out.2.2 (by have := HX.out; omega))))); clear hcel hnew hs)
    | (refine wpList_store_row (by rfl) 56 (.tmp 4) (.tmp 37) (by rfl) w.heap.size c.toArray (by rfl) (by rfl) 56 zeroN.toArray HS3.out.2.2.2 (by rw [node_info]; simp [HS3.out.1.1.1]) (by simp [HS3.out.1.1.1, zeroN, ofC]) (all_oneCell_toArray HS3.out.1.1.2) ?_))
  (try simp only [Exit.inBlock, Exit.then])
  refine bodyPost_ret (ret_tree2 rfl (setRow_heap w3 w.heap.size zeroN.toArray _ 56 (0, 0) HS3.out.2.2.2) HS3.out.1.1 rfl rfl) rfl ?_
  exact co_some HX.out.2 HX.out.1 HB2.out.2.1 (Array.getElem?_eq_some_iff.1 HB2.out.2.2).1 HS3.out.1 HS3.out.2.1 HS3.out.2.2.1

set_option maxHeartbeats 16000000 in
set_option maxRecDepth 10000 in
theorem pcompound_case {w0 w : World} {X : Nat} {S : PS} {cmd : Do} {d : Nat} (hc : CallDoR w0 188 (choiceM cmd) d) (h : Pr w0 w X S) (hi : S.is [99, 97, 115, 101] = true) :
    Calls Tryz.prog 156 #[.pointer (some ⟨X, 0, none⟩), .int .i64 (d : Int)] w fun e w' => CoEnd w0 w w' e X S (some (choiceM cmd S)) := by
  have HX := Lib.hid h.base
  have HP := Lib.hid (h.new (below_new w ZN))
  have HN := Lib.hid (pnext_any (h.new (below_new w ZN)))
  have HTX := Lib.hid (fun W (hW : Below w0.heap.size w0 W) p k (hu : PsAt w0 (.slice p S.hd.word.length k) S.hd.word) => text_any hW S.hd p k hu)
  rw [show textK S.hd = [99, 97, 115, 101] by simpa [PS.is, PS.tx] using hi] at HTX
  have HC0 := Lib.hid (fun W (hW : Pr w0 W X S) => hc W X S hW)
  obtain ⟨r, hr⟩ : ∃ r, choiceM cmd S = r := ⟨_, rfl⟩
  rw [hr] at HC0 ⊢
  clear h hi hc hr
  go_enter Tryz.func156, Tryz.ntmps156
  go_wp2_with (first
    | (go_at_call 45; refine HN.out.mono ?_; rintro en w1 ⟨p, k, rfl, hu, hb1⟩; have HB1 := Lib.hid (And.intro hb1 ((hb1.block w.heap.size (by simp)).trans (heap_alloc_new w ZN))); have HC := Lib.hid (HTX.out _ (HP.out.new hb1).below p k hu); clear hb1 hu)
    | (go_at_call 104; refine HC.out.mono ?_; rintro en w2 ⟨rfl, hb2⟩; have HB2 := Lib.hid (And.intro ((HP.out.new HB1.out.1).new hb2) (And.intro (((below_new w ZN).trans (HB1.out.1.mono (by simp))).trans (hb2.mono (by have := HB1.out.1.size; simp at this; omega))) ((hb2.block w.heap.size (Array.getElem?_eq_some_iff.1 HB1.out.2).1).trans HB1.out.2))); clear hb2)
    | (go_at_call 188; refine (HC0.out _ HB2.out.1).mono ?_; rintro en w3 ⟨c, rfl, hcel, hnew, hs⟩; have HS3 := Lib.hid (And.intro hcel (And.intro hnew (And.intro hs (hs.2.heap HB2.out.2.2 (by have := HX.out; omega))))); clear hcel hnew hs)
    | (refine wpList_store_row (by rfl) 56 (.tmp 4) (.tmp 42) (by rfl) w.heap.size c.toArray (by rfl) (by rfl) 56 zeroN.toArray HS3.out.2.2.2 (by rw [node_info]; simp [HS3.out.1.1.1]) (by simp [HS3.out.1.1.1, zeroN, ofC]) (all_oneCell_toArray HS3.out.1.1.2) ?_))
  (try simp only [Exit.inBlock, Exit.then])
  refine bodyPost_ret (ret_tree2 rfl (setRow_heap w3 w.heap.size zeroN.toArray _ 56 (0, 0) HS3.out.2.2.2) HS3.out.1.1 rfl rfl) rfl ?_
  exact co_some HX.out.2 HX.out.1 HB2.out.2.1 (Array.getElem?_eq_some_iff.1 HB2.out.2.2).1 HS3.out.1 HS3.out.2.1 HS3.out.2.2.1
end Go.Proofs.YtakceggnadagmaaGreatDoor
