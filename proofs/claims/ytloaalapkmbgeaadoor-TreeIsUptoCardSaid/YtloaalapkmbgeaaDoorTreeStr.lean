/-
  Proved: contracts of the library's searches in a text, as the program asks them (strings.ContainsAny, ContainsRune at ASCII sets, Contains of a byte, Cut at '='). Conditions: as each says.
-/
import Derived.Test.YtloaalapkmbgeaaDoorLexHigh
import Derived.Test.YtloaalapkmbgeaaDoorTreeDecode
import Derived.Lib.OthersKept
import Derived.LoopTactic
namespace Go.Proofs.YtloaalapkmbgeaaDoor
open Go Go.RowKit GlyphMath LexMath TreeMath

/-- The number of a byte in a text: it is there. -/
theorem indexByte_in (l : List UInt8) (c : UInt8) : decide (0 ≤ Lib.indexByte l c) = l.contains c := by
  induction l with
  | nil => rfl
  | cons b r ih =>
    rw [List.contains_cons, ← ih]
    by_cases h : b = c
    · subst h
      simp [Lib.indexByte]
    · have h1 : (b == c) = false := by simpa using h
      have h2 : (c == b) = false := by simpa using fun e => h e.symm
      have hm : Lib.indexByte r c = -1 ∨ 0 ≤ Lib.indexByte r c := by
        clear ih
        induction r with
        | nil => exact .inl rfl
        | cons x r ih =>
          unfold Lib.indexByte
          by_cases hx : (x == c) = true
          · rw [if_pos hx]; exact .inr (Int.le_refl 0)
          · rw [if_neg hx]
            rcases ih with h | h
            · rw [h]; exact .inl rfl
            · have : (Lib.indexByte r c == -1) = false := by
                have : Lib.indexByte r c ≠ -1 := by omega
                simpa using this
              rw [this]; exact .inr (by simp; omega)
      rw [Lib.indexByte, h1, h2, Bool.false_or]
      rcases hm with h | h
      · rw [h]; rfl
      · have : (Lib.indexByte r c == -1) = false := by
          have : Lib.indexByte r c ≠ -1 := by omega
          simpa using this
        rw [this]
        simp only [Bool.false_eq_true, ↓reduceIte]
        rw [decide_eq_true h, decide_eq_true (by omega)]
/-- A letter among ASCII ones. -/
def inSet (cs : List UInt8) (r : Nat) : Bool := decide (r < 128) && cs.contains r.toUInt8
theorem rune_in (s : ByteArray) (hs : ∀ b ∈ s.data.toList, b.toNat < 128) (hz : s.size ≤ 100) (r : Nat) (hr : r < 128 ∨ GoodL r) (w : World) :
    Calls Tryd.prog 92 #[.string s, .int .i32 (r : Int)] w fun e w' => ∃ k : Int, e = .returned (.int .i64 k) ∧ decide (0 ≤ k) = inSet s.data.toList r ∧ Below w.heap.size w w' := by
  by_cases h : r < 128
  · refine (Tryd.strings_IndexRune_ascii s (r : Int) w (by omega) (by omega)).mono ?_
    rintro e w' ⟨rfl, rfl⟩
    refine ⟨_, rfl, ?_, Below.refl _ _⟩
    rw [indexByte_in, show ((r : Int).toNat) = r from rfl]
    unfold inSet
    rw [decide_eq_true h, Bool.true_and]
  · have hf : inSet s.data.toList r = false := by unfold inSet; rw [decide_eq_false h, Bool.false_and]
    have hi : Calls Tryd.prog 92 #[.string s, .int .i32 (r : Int)] w fun e w' => e = .returned (.int .i64 (-1)) ∧ Below w.heap.size w w' := by
      by_cases he : r = 65533
      · subst he; exact index_none s w hs
      · exact index_high s r w (by omega) (hr.resolve_left h) he hs hz
    refine hi.mono ?_
    rintro e w' ⟨rfl, hb⟩
    exact ⟨_, rfl, by rw [hf]; rfl, hb⟩
theorem crune_in (s : ByteArray) (hs : ∀ b ∈ s.data.toList, b.toNat < 128) (hz : s.size ≤ 100) (r : Nat) (hr : r < 128 ∨ GoodL r) (w : World) :
    Calls Tryd.prog 82 #[.string s, .int .i32 (r : Int)] w fun e w' => e = .returned (.bool (inSet s.data.toList r)) ∧ Below w.heap.size w w' := by
  have HI := Lib.hid (rune_in s hs hz r hr w)
  generalize inSet s.data.toList r = B at HI ⊢
  clear hs hz hr
  go_enter Tryd.func82, Tryd.ntmps82
  go_wp2_with (go_at_call 92; refine HI.out.mono ?_; rintro e w1 ⟨k, rfl, hk, hb⟩; have HB := Lib.hid (And.intro hk hb); clear hk hb)
  go_ret
  exact ⟨ret_bool HB.out.1, HB.out.2⟩

set_option maxHeartbeats 2000000 in
set_option maxRecDepth 1000000 in
/-- IndexAny of a short text. -/
theorem any_short (s cs : ByteArray) (hs : ∀ b ∈ cs.data.toList, b.toNat < 128) (h2 : 2 ≤ cs.size) (hz : cs.size ≤ 100) (h8 : s.size ≤ 8) (w : World) :
    Calls Tryd.prog 90 #[.string s, .string cs] w fun e w' => ∃ k : Int, e = .returned (.int .i64 k) ∧ decide (0 ≤ k) = anyIn s.data.toList cs.data.toList ∧ Below w.heap.size w w' := by
  have HC := Lib.hid (And.intro hs hz)
  obtain ⟨R, hR⟩ : ∃ R, anyIn s.data.toList cs.data.toList = R := ⟨_, rfl⟩
  have HR := Lib.hid hR
  rw [hR]
  have hemp : cs.toList.isEmpty = false := by
    rw [Lib.toList_data]
    cases h : cs.data.toList with
    | nil => have := Lib.size_eq cs; rw [h, List.length_nil] at this; omega
    | cons _ _ => rfl
  have hn1 : ((cs.size : Int) == 1) = false := beq_eq_false_iff_ne.2 (by omega)
  have h8z : decide ((8 : Int) < (s.size : Int)) = false := decide_eq_false (by omega)
  clear hs h2 hz hR
  go_enter Tryd.func90, Tryd.ntmps90
  go_wp2_with (go_at_call 95; refine (Tryd.strings_shouldUseASCIISet _ _).mono ?_; rintro e w' ⟨rfl, hw⟩; rw [hw, h8z])
  go_loopw [9, 10] (fun _ _ wr => ∃ (pos : Nat), wr.heap[w.heap.size]? = some (.stringIter s pos) ∧ Below w.heap.size w wr ∧ anyIn (s.data.toList.drop pos) cs.data.toList = R ∧ pos ≤ s.size) (fun _ _ wr => s.size - wr.iterPos w.heap.size)
  case atStart => exact ⟨0, (show (w.iter s 0).heap[w.heap.size]? = some (.stringIter s 0) from by unfold World.iter; exact heap_alloc_new w _), below_iter w s 0, HR.out, Nat.zero_le _⟩
  case round =>
    obtain ⟨pos, hit, hb, hk, hle⟩ := hrel
    have hlt : w.heap.size < wr.heap.size := (Array.getElem?_eq_some_iff.1 hit).1
    by_cases hp : pos < s.size
    · obtain ⟨r, d, hd, hr, hstep, hw1, hw2⟩ : ∃ r d, Utf8.decode s pos = (r, d) ∧ (r < 128 ∨ GoodL r) ∧ anyIn (s.data.toList.drop pos) cs.data.toList = (inSet cs.data.toList r || anyIn (s.data.toList.drop (pos + d)) cs.data.toList) ∧ 1 ≤ d ∧ pos + d ≤ s.size := by
        by_cases hc : (s.get! pos).toNat < 128
        · refine ⟨_, _, dec_low s pos hc, .inl hc, ?_, Nat.le_refl _, hp⟩
          rw [get_drop s pos hp, any_cons]
          unfold inSet
          rw [decide_eq_true hc, Bool.true_and]
          simp
        · obtain ⟨r, d, h1, h2, h3, h4, h5, h6⟩ := dec_high s pos hp (by omega)
          refine ⟨r, d, h1, .inr h3, ?_, h4, h5⟩
          unfold inSet
          rw [decide_eq_false (by omega), Bool.false_and, Bool.false_or]
          exact h6 _ HC.out.1
      have hnx : ∀ ty, (Instr.next (.pointer (some ⟨w.heap.size, 0, none⟩)) true ty).run Tryd.prog wr = .ok (.tuple #[.bool true, .int .i64 pos, .int .i32 (r : Int)]) (wr.iterAt w.heap.size s (pos + d)) := fun ty => by rw [Lib.run_next_any_at wr w.heap.size s pos ty hit hp, hd]
      have hit2 := Lib.iterAt_heap wr w.heap.size s pos (pos + d) hit
      have hb2 := Lib.below_iterAt hb (Nat.le_refl _) s (pos + d)
      obtain ⟨W, hW⟩ : ∃ W, wr.iterAt w.heap.size s (pos + d) = W := ⟨_, rfl⟩
      rw [hW] at hnx hit2 hb2
      have HI := Lib.hid (rune_in cs HC.out.1 HC.out.2 r hr W)
      rw [hk] at hstep
      have HS := Lib.hid hstep
      have HX := Lib.hid (And.intro hit2 (And.intro hb2 (And.intro hw1 (And.intro hw2 hit))))
      clear hit hb hk hd hr hstep hw1 hw2 hit2 hb2 hW hlt
      obtain ⟨B, hB⟩ : ∃ B, inSet cs.data.toList r = B := ⟨_, rfl⟩
      rw [hB] at HI HS
      clear hB
      cases B
      · go_wp2_with (go_at_call 92; refine HI.out.mono ?_; rintro e w1 ⟨k, rfl, hk, hb⟩; have hk0 : ¬ (0 : Int) ≤ k := of_decide_eq_false hk; have HB := Lib.hid hb; clear hk hb)
        go_roundw
        case rel => exact ⟨pos + d, (HB.out.block _ (Array.getElem?_eq_some_iff.1 HX.out.1).1).trans HX.out.1, HX.out.2.1.trans (HB.out.mono HX.out.2.1.size), by rw [HS.out]; rfl, HX.out.2.2.2.1⟩
        case measure =>
          have e1 := (HB.out.block _ (Array.getElem?_eq_some_iff.1 HX.out.1).1).trans HX.out.1
          have e2 := HX.out.2.2.2.2
          have := HX.out.2.2.1
          simp only [World.iterPos, e1, e2]
          omega
      · go_wp2_with (go_at_call 92; refine HI.out.mono ?_; rintro e w1 ⟨k, rfl, hk, hb⟩; have hk0 : (0 : Int) ≤ k := of_decide_eq_true hk; have HB := Lib.hid hb; clear hk hb)
        go_ret
        exact ⟨_, rfl, by rw [HS.out]; simp, HX.out.2.1.trans (HB.out.mono HX.out.2.1.size)⟩
    · have hnx : ∀ ty, (Instr.next (.pointer (some ⟨w.heap.size, 0, none⟩)) true ty).run Tryd.prog wr = _ := fun ty => Lib.run_next_end_at wr w.heap.size s pos ty hit hp
      have HK := Lib.hid (show false = R by rw [← hk, drop_all s pos hp]; rfl)
      have HB := Lib.hid hb
      clear hk hit hb hlt
      go_wp2_with fail
      go_ret
      exact ⟨_, rfl, by rw [← HK.out]; rfl, HB.out⟩

/-- IndexAny of a long one. -/
theorem any_long (s cs : ByteArray) (hs : ∀ b ∈ cs.data.toList, b.toNat < 128) (h2 : 2 ≤ cs.size) (hz : cs.size ≤ 100) (h8 : 8 < s.size) (hsz : s.size ≤ 1048576) (w : World) :
    Calls Tryd.prog 90 #[.string s, .string cs] w fun e w' => ∃ k : Int, e = .returned (.int .i64 k) ∧ decide (0 ≤ k) = anyIn s.data.toList cs.data.toList ∧ Below w.heap.size w w' := by
  refine (Tryd.strings_IndexAny_long (zero_of_info (n := 256) (by kernel_rfl)).1 s cs w h2 h8 (by omega) (by omega) (fun j b h => hs b (List.mem_of_getElem? h))).mono ?_
  rintro e w' ⟨rfl, rfl⟩
  refine ⟨_, rfl, ?_, ((Below.refl _ w).alloc (Nat.le_refl _) _).alloc (by rw [World.size_alloc]; omega) _⟩
  generalize s.data.toList = l
  induction l with
  | nil => rfl
  | cons b l ih =>
    rw [any_cons, ← ih, Lib.indexAny]
    have hm := Lib.indexAny_ge cs.data.toList l
    cases h : cs.data.toList.contains b with
    | true => rfl
    | false =>
      by_cases e : Lib.indexAny l cs.data.toList = -1
      · rw [e]; decide
      · have e2 : (Lib.indexAny l cs.data.toList == -1) = false := by simpa using e
        rw [e2]
        simp only [Bool.false_eq_true, ↓reduceIte, Bool.false_or]
        rw [decide_eq_true (by omega), decide_eq_true (by omega)]

theorem contains_any (s cs : ByteArray) (hs : ∀ b ∈ cs.data.toList, b.toNat < 128) (h2 : 2 ≤ cs.size) (hz : cs.size ≤ 100) (hsz : s.size ≤ 1048576) (w : World) :
    Calls Tryd.prog 80 #[.string s, .string cs] w fun e w' => e = .returned (.bool (anyIn s.data.toList cs.data.toList)) ∧ Below w.heap.size w w' := by
  have hi : Calls Tryd.prog 90 #[.string s, .string cs] w fun e w' => ∃ k : Int, e = .returned (.int .i64 k) ∧ decide (0 ≤ k) = anyIn s.data.toList cs.data.toList ∧ Below w.heap.size w w' := by
    by_cases h8 : s.size ≤ 8
    · exact any_short s cs hs h2 hz h8 w
    · exact any_long s cs hs h2 hz (by omega) hsz w
  generalize anyIn s.data.toList cs.data.toList = B at hi ⊢
  have HI := Lib.hid hi
  clear hi hs h2 hz hsz
  go_enter Tryd.func80, Tryd.ntmps80
  go_wp2_with (go_at_call 90; refine HI.out.mono ?_; rintro e w1 ⟨k, rfl, hk, hb⟩; have HB := Lib.hid (And.intro hk hb); clear hk hb)
  go_ret
  exact ⟨ret_bool HB.out.1, HB.out.2⟩

/-! ### Cut at a byte -/
theorem ahead_index : ∀ (l : List UInt8), (∃ i, i < l.length ∧ Lib.indexByte l 61 = (i : Int) ∧ aheadT l = some (l.take i)) ∨ (Lib.indexByte l 61 = -1 ∧ aheadT l = none)
  | [] => .inr ⟨rfl, rfl⟩
  | b :: l => by
    rw [Lib.indexByte, aheadT]
    by_cases h : b = 61
    · subst h
      exact .inl ⟨0, by simp, by simp, by simp⟩
    · have h1 : (b == 61) = false := by simpa using h
      rw [h1, if_neg h]
      rcases ahead_index l with ⟨i, h2, h3, h4⟩ | ⟨h3, h4⟩
      · refine .inl ⟨i + 1, by simpa using h2, ?_, ?_⟩
        · rw [h3]
          have : (((i : Int)) == -1) = false := beq_eq_false_iff_ne.2 (by omega)
          rw [this]
          simp
        · rw [h4]; rfl
      · exact .inr ⟨by rw [h3]; rfl, by rw [h4]; rfl⟩
set_option maxHeartbeats 2000000 in
set_option maxRecDepth 100000 in
theorem slcut_any (s : ByteArray) (w : World) (hs : s.size ≤ 1048576) :
    Calls Tryd.prog 93 #[.string s, .string ⟨#[61]⟩] w fun e w' => ∃ a b : ByteArray, ∃ f : Bool, e = .returned (.tuple #[.string a, .string b, .bool f]) ∧ (aheadT s.data.toList = if f then some a.data.toList else none) ∧ ∃ n, w' = w.drewN n := by
  have HI := Lib.hid (fun W => Tryd.stringslite_Index_one s 61 W)
  rcases ahead_index s.data.toList with ⟨i, h1, h2, h3⟩ | ⟨h2, h3⟩
  · rw [h3]
    rw [h2] at HI
    rw [← Lib.size_eq] at h1
    have c1 : (0 : Int) ≤ (i : Int) := by omega
    have c2 : (i : Int) ≤ (s.size : Int) := by omega
    obtain ⟨m, hm⟩ : ∃ m : Nat, m = i + 1 := ⟨_, rfl⟩
    have hwr : IntKind.i64.wrap ((i : Int) + 1) = (m : Int) := by
      have e : (m : Int) = (i : Int) + 1 := by omega
      rw [e]; exact IntWalk.i64_in _ ⟨by omega, by omega⟩
    have c3 : (0 : Int) ≤ (m : Int) := by omega
    have c4 : (m : Int) ≤ (s.size : Int) := by omega
    have HS := Lib.hid (show s.data.toList.take i = (s.extract 0 i).data.toList by simp [ByteArray.data_extract])
    clear h1 h2 h3 hm hs
    go_enter Tryd.func93, Tryd.ntmps93
    go_wp2_with (go_at_call 103; refine (HI.out _).mono ?_; rintro e w' ⟨rfl, rfl⟩)
    go_quiet (fail)
    go_wp2_with fail
    go_ret3
    exact ⟨_, _, _, rfl, by rw [HS.out]; rfl, _, rfl⟩
  · rw [h3]
    rw [h2] at HI
    clear h2 h3 hs
    go_enter Tryd.func93, Tryd.ntmps93
    go_wp2_with (go_at_call 103; refine (HI.out _).mono ?_; rintro e w' ⟨rfl, rfl⟩)
    go_ret3
    exact ⟨_, _, _, rfl, rfl, 0, rfl⟩
theorem cut_any (s : ByteArray) (w : World) (hs : s.size ≤ 1048576) :
    Calls Tryd.prog 85 #[.string s, .string ⟨#[61]⟩] w fun e w' => ∃ a b : ByteArray, ∃ f : Bool, e = .returned (.tuple #[.string a, .string b, .bool f]) ∧ (aheadT s.data.toList = if f then some a.data.toList else none) ∧ Below w.heap.size w w' := by
  have HI := Lib.hid (slcut_any s w hs)
  clear hs
  go_enter Tryd.func85, Tryd.ntmps85
  go_wp2_with (go_at_call 93; refine HI.out.mono ?_; rintro e w1 ⟨a, b, f, rfl, hf, n, rfl⟩; have HF := Lib.hid hf; clear hf)
  go_ret3
  exact ⟨_, _, _, rfl, HF.out, below_drew _ _ _⟩
end Go.Proofs.YtloaalapkmbgeaaDoor
