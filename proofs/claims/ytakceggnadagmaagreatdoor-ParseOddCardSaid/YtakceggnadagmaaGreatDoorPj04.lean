/-
  Proved: texts joined: Proved: contracts of Valid, Count and Name of a text, by its letters. Conditions: none.
  Proved: the contract of Blank. Conditions: none.
  Laid: the contracts of the library's functions that this program calls, at this translation's numbers. Conditions: each theorem's own.
  Proved: the library's search of a letter that is no ASCII in a short ASCII text finds none; a letter in the program's sets of letters. Conditions: a letter that a text may have.
  Proved: the library's search of a letter that is no ASCII in a short ASCII text finds none. Conditions: a letter that a text may have.
-/
import Derived.Test.YtakceggnadagmaaGreatDoorPj03
import Derived.WalkSpells
import Derived.WalkLawsBesides
import Derived.Below
import Derived.LoopTactic
import Derived.Laws.Strings3
import Derived.Shelf.Small.Utf8
import Derived.Shelf.Small.Strs
import Derived.Shelf.Strings.BuilderK
import Derived.Shelf.Utf8.AppendRune
import Derived.Shelf.Strings.Search2
import Derived.Shelf.Strings.Runes
import Derived.Shelf.Unicode.DecodeAny
import Derived.Ground.NamesProg
import Derived.Test.YtakceggnadagmaaGreatDoorProg
import Derived.Test.YtakceggnadagmaaGreatDoorPj01
import Derived.RegionTactic
import Derived.Deep.QuietTactic
import Derived.BigQuiet
import Derived.BigCall
import Derived.BigGuard
import Derived.Lib.IndexLaws
import Derived.Laws.Runes
namespace Go.Proofs.YtakceggnadagmaaGreatDoor
open Go Go.RowKit GlyphMath

theorem below_iter (w : World) (s : ByteArray) (p : Nat) : Below w.heap.size w (w.iter s p) := (Below.refl _ w).alloc (Nat.le_refl _) _

theorem slprefix_any (s p : ByteArray) (w : World) :
    Calls Tryz.prog 95 #[.string s, .string p] w fun e w' => e = .returned (.bool (Lib.hasPrefix s.data.toList p.data.toList)) ∧ w = w' := by
  rw [← Lib.hasPrefix_raw]
  by_cases h : p.size ≤ s.size
  · go_enter Tryz.func95, Tryz.ntmps95
    go_wp2_with fail
    go_ret
    exact ⟨ret_bool (by simp [h]), rfl⟩
  · go_enter Tryz.func95, Tryz.ntmps95
    go_wp2_with fail
    go_ret
    exact ⟨ret_bool (by simp [h]), rfl⟩

theorem prefix_any (s p : ByteArray) (w : World) :
    Calls Tryz.prog 68 #[.string s, .string p] w fun e w' => e = .returned (.bool (Lib.hasPrefix s.data.toList p.data.toList)) ∧ w = w' := by
  generalize hB : Lib.hasPrefix s.data.toList p.data.toList = B
  have HB := Lib.hid hB
  clear hB
  go_enter Tryz.func68, Tryz.ntmps68
  go_wp2_with (go_at_call 95; refine (slprefix_any s p _).mono ?_; rintro e w1 ⟨rfl, rfl⟩; rw [HB.out])
  go_ret
  exact ⟨rfl, rfl⟩

/-- Count is how many letters. -/
theorem count_any (s : ByteArray) (w : World) (hs : s.size ≤ 9223372036854775807) :
    Calls Tryz.prog 69 #[.string s] w fun e w' => e = .returned (.int .i64 ((letters s).length : Int)) ∧ Below w.heap.size w w' := by
  go_enter Tryz.func69, Tryz.ntmps69
  go_wp2
  go_loopw [3] (fun n w' => ∃ (pos k : Nat), w' = w.iter s pos ∧ n = .int .i64 (k : Int) ∧ k + (rest s pos).length = (letters s).length) (fun _ w' => s.size - w'.iterPos w.heap.size)
  case atStart => exact ⟨0, 0, rfl, rfl, by rw [rest_zero]; omega⟩
  case round =>
    obtain ⟨pos, k, rfl, rfl, hk⟩ := hrel
    have hl := letters_length s
    by_cases hp : pos < s.size
    · have hnx : ∀ ty, (Instr.next (.pointer (some ⟨w.heap.size, 0, none⟩)) true ty).run Tryz.prog (w.iter s pos) = _ := fun ty => run_next_any w s pos ty hp
      have hwd := width_pos s pos hp
      rw [rest_step s pos hp, List.length_cons] at hk
      have hk1 : (k : Int) + 1 ≤ 9223372036854775807 := by omega
      have HK := Lib.hid hk
      clear hk hl
      go_wp2
      go_roundw
      case rel => exact ⟨pos + (Utf8.decode s pos).2, k + 1, rfl, by congr 1, by have := HK.out; omega⟩
      case measure => simp; omega
    · have hnx : ∀ ty, (Instr.next (.pointer (some ⟨w.heap.size, 0, none⟩)) true ty).run Tryz.prog (w.iter s pos) = _ := fun ty => run_next_end w s pos ty hp
      rw [rest_end s pos hp, List.length_nil, Nat.add_zero] at hk
      subst hk
      clear hl
      go_wp2
      go_ret
      exact ⟨rfl, below_iter w s pos⟩

/-- Valid: where the first place is that begins none, or is 0. -/
theorem valid_any (s : ByteArray) (w : World) :
    Calls Tryz.prog 39 #[.string s] w fun e w' => e = .returned (.tuple #[.int .i64 (place s : Int), .bool (isText s)]) ∧ Below w.heap.size w w' := by
  go_enter Tryz.func39, Tryz.ntmps39
  go_wp2
  go_loopw [4] (fun _ w' => ∃ (pos : Nat), w' = w.iter s pos ∧ badFrom s pos = firstBad s) (fun _ w' => s.size - w'.iterPos w.heap.size)
  case atStart => exact ⟨0, rfl, rfl⟩
  case round =>
    obtain ⟨pos, rfl, hk⟩ := hrel
    by_cases hp : pos < s.size
    · obtain ⟨r, d, hd⟩ : ∃ r d, Utf8.decode s pos = (r, d) := ⟨_, _, rfl⟩
      have hnx : ∀ ty, (Instr.next (.pointer (some ⟨w.heap.size, 0, none⟩)) true ty).run Tryz.prog (w.iter s pos) = .ok (.tuple #[.bool true, .int .i64 pos, .int .i32 (r : Int)]) (w.iter s (pos + d)) := fun ty => by rw [run_next_any w s pos ty hp, hd]
      have hwd := width_pos s pos hp
      rw [badFrom_step s pos hp, bad_asked, hd] at hk
      rw [hd] at hwd
      simp only at hk hwd
      clear hd
      obtain ⟨B, hB⟩ : ∃ B, ownNone s pos = B := ⟨_, rfl⟩
      rw [hB] at hk
      have HB := Lib.hid (show Lib.hasPrefix (s.extract pos s.size).data.toList (⟨#[239, 191, 189]⟩ : ByteArray).data.toList = B from hB)
      clear hB
      by_cases b0 : r = 0
      · subst b0
        have e1 : place s = pos := by unfold place; rw [← hk]; rfl
        have e2 : isText s = false := by unfold isText; rw [← hk]; rfl
        have E := Lib.hid (And.intro e1 e2)
        clear hk e1 e2 HB
        go_wp2
        go_ret2
        exact ⟨by rw [E.out.1, E.out.2]; rfl, below_iter w s _⟩
      · have b0' : ((r : Int) == 0) = false := by simpa using b0
        have c0 : (r == 0) = false := by simpa using b0
        by_cases b1 : r = 65533
        · subst b1
          cases B with
          | true =>
            have HK := Lib.hid (show badFrom s (pos + d) = firstBad s by rw [← hk]; rfl)
            clear hk b0 c0
            go_wp2_with (go_at_call 68; refine (prefix_any _ _ _).mono ?_; rintro e w1 ⟨rfl, rfl⟩; rw [HB.out])
            go_roundw
            case rel => exact ⟨pos + d, rfl, HK.out⟩
            case measure => simp; omega
          | false =>
            have e1 : place s = pos := by unfold place; rw [← hk]; rfl
            have e2 : isText s = false := by unfold isText; rw [← hk]; rfl
            have E := Lib.hid (And.intro e1 e2)
            clear hk e1 e2 b0 c0
            go_wp2_with (go_at_call 68; refine (prefix_any _ _ _).mono ?_; rintro e w1 ⟨rfl, rfl⟩; rw [HB.out])
            go_ret2
            exact ⟨by rw [E.out.1, E.out.2]; rfl, below_iter w s _⟩
        · have b1' : ((r : Int) == 65533) = false := by
            have : ¬ (r : Int) = 65533 := by omega
            simpa using this
          have c1 : (r == 65533) = false := by simpa using b1
          have HK := Lib.hid (show badFrom s (pos + d) = firstBad s by rw [← hk, c0, c1]; rfl)
          clear hk b0 c0 b1 c1 HB
          go_wp2_with fail
          go_roundw
          case rel => exact ⟨pos + d, rfl, HK.out⟩
          case measure => simp; omega
    · have hnx : ∀ ty, (Instr.next (.pointer (some ⟨w.heap.size, 0, none⟩)) true ty).run Tryz.prog (w.iter s pos) = _ := fun ty => run_next_end w s pos ty hp
      rw [badFrom_end s pos hp] at hk
      have e1 : place s = s.size := by unfold place; rw [← hk]; rfl
      have e2 : isText s = true := by unfold isText; rw [← hk]; rfl
      have E := Lib.hid (And.intro e1 e2)
      clear hk e1 e2
      go_wp2
      go_ret2
      exact ⟨by rw [E.out.1, E.out.2]; rfl, below_iter w s pos⟩

/-! ### Name -/
theorem low_rest (s : ByteArray) : ∀ n i, s.size - i ≤ n → i ≤ s.size → (rest s i).all (fun (x : Nat) => moreR x) = true → (rest s i).length = s.size - i
  | 0, i, hn, hi, _ => by rw [rest_end s i (by omega)]; simp; omega
  | n + 1, i, hn, hi, ha => by
    by_cases h : i < s.size
    · rw [rest_step s i h, List.all_cons, Bool.and_eq_true] at ha
      have h1 : (Utf8.decode s i).1 < 128 := by
        have := ha.1
        simp only [moreR, firstR, Bool.or_eq_true, decide_eq_true_eq] at this
        omega
      have h2 : (s[i]'h).toNat < 128 := by
        rcases Nat.lt_or_ge (s[i]'h).toNat 128 with k | k
        · exact k
        · have := (decode_high s i h k).1; omega
      have hd := decode_ascii s i h h2
      rw [hd] at ha
      rw [rest_step s i h, hd, List.length_cons, low_rest s n (i + 1) (by omega) (by omega) ha.2]; omega
    · rw [rest_end s i h]; simp; omega

/-- A text of so many bytes is a name just if its letters say so. -/
theorem name_few (s : ByteArray) (h0 : 0 < s.size) (h1 : s.size ≤ 12) : nameL (letters s) = (firstR (Utf8.decode s 0).1 && (letters s).all (fun (x : Nat) => moreR x)) := by
  have hl := letters_length s
  have e := rest_step s 0 h0
  rw [rest_zero] at e
  have e2 : nameL (letters s) = (firstR (Utf8.decode s 0).1 && (letters s).all (fun (x : Nat) => moreR x) && decide ((letters s).length ≤ 12)) := by rw [e]; rfl
  rw [e2, decide_eq_true (by omega), Bool.and_true]
theorem name_long (s : ByteArray) (h : 12 < s.size) : nameL (letters s) = false := by
  have e := rest_step s 0 (by omega)
  rw [rest_zero] at e
  have e2 : nameL (letters s) = (firstR (Utf8.decode s 0).1 && (letters s).all (fun (x : Nat) => moreR x) && decide ((letters s).length ≤ 12)) := by rw [e]; rfl
  cases ha : (letters s).all (fun (x : Nat) => moreR x) with
  | false => rw [e2, ha]; simp
  | true =>
    have := low_rest s s.size 0 (by omega) (by omega) (by rw [rest_zero]; exact ha)
    rw [rest_zero] at this
    rw [e2, decide_eq_false (by omega)]; simp
theorem nonempty (s : ByteArray) (h : 0 < s.size) : s.toList.isEmpty = false := by
  rw [Lib.toList_data]
  rw [Lib.size_eq] at h
  match hl : s.data.toList with
  | [] => rw [hl] at h; simp at h
  | _ :: _ => rfl

theorem name_none (w : World) :
    Calls Tryz.prog 178 #[.string ⟨#[]⟩] w fun e w' => e = .returned (.bool false) ∧ Below w.heap.size w w' := by
  go_enter Tryz.func178, Tryz.ntmps178
  go_wp2_with fail
  go_ret
  exact ⟨rfl, Below.refl _ _⟩
theorem name_many (s : ByteArray) (w : World) (h : 12 < s.size) :
    Calls Tryz.prog 178 #[.string s] w fun e w' => e = .returned (.bool false) ∧ Below w.heap.size w w' := by
  have hE := nonempty s (by omega)
  have hL : (12 : Int) < s.size := by omega
  clear h
  go_enter Tryz.func178, Tryz.ntmps178
  go_wp2_with fail
  go_ret
  exact ⟨rfl, Below.refl _ _⟩

theorem name_in (s : ByteArray) (Q : Bool) (w : World) (h0 : 0 < s.size) (h1 : s.size ≤ 12) (hQ : Q = (firstR (Utf8.decode s 0).1 && (letters s).all (fun (x : Nat) => moreR x))) :
    Calls Tryz.prog 178 #[.string s] w fun e w' => e = .returned (.bool Q) ∧ Below w.heap.size w w' := by
  have hE := nonempty s h0
  have hL : (s.size : Int) ≤ 12 := by omega
  have HQ := Lib.hid hQ
  clear hQ h1
  go_enter Tryz.func178, Tryz.ntmps178
  go_wp2
  go_loopw [3] (fun _ w' => ∃ (pos : Nat), w' = w.iter s pos ∧ (pos = 0 ∨ 0 < pos ∧ Q = (rest s pos).all (fun (x : Nat) => moreR x))) (fun _ w' => s.size - w'.iterPos w.heap.size)
  case atStart => exact ⟨0, rfl, .inl rfl⟩
  case round =>
    obtain ⟨pos, rfl, hk⟩ := hrel
    by_cases hp : pos < s.size
    · obtain ⟨r, d, hd⟩ : ∃ r d, Utf8.decode s pos = (r, d) := ⟨_, _, rfl⟩
      have hnx : ∀ ty, (Instr.next (.pointer (some ⟨w.heap.size, 0, none⟩)) true ty).run Tryz.prog (w.iter s pos) = .ok (.tuple #[.bool true, .int .i64 pos, .int .i32 (r : Int)]) (w.iter s (pos + d)) := fun ty => by rw [run_next_any w s pos ty hp, hd]
      have hwd := width_pos s pos hp
      have hst := rest_step s pos hp
      rw [hd] at hst hwd
      simp only at hst hwd
      obtain ⟨F, hF⟩ : ∃ F, firstR (r : Int) = F := ⟨_, rfl⟩
      obtain ⟨M, hM⟩ : ∃ M, moreR (r : Int) = M := ⟨_, rfl⟩
      have HF := Lib.hid hF
      have HM := Lib.hid hM
      rcases hk with rfl | ⟨hpos, hk⟩
      · have hq := HQ.out
        rw [hd, ← rest_zero, hst, List.all_cons, hM, hF] at hq
        have HK := Lib.hid hq
        clear hF hM hst hq hd hE hL
        cases F <;> cases M
        all_goals
          go_wp2_with (first | (go_at_call 149; refine (first_any _ _).mono ?_; rintro e w1 ⟨rfl, rfl⟩; rw [HF.out]) | (go_at_call 177; refine (more_any _ _).mono ?_; rintro e w1 ⟨rfl, rfl⟩; rw [HM.out]))
        · go_ret
          exact ⟨ret_bool (by rw [HK.out]; rfl), below_iter w s _⟩
        · go_ret
          exact ⟨ret_bool (by rw [HK.out]; rfl), below_iter w s _⟩
        · go_ret
          exact ⟨ret_bool (by rw [HK.out]; rfl), below_iter w s _⟩
        · go_roundw
          case rel => exact ⟨_, rfl, .inr ⟨by omega, by rw [HK.out]; simp⟩⟩
          case measure => simp; omega
      · rw [hst, List.all_cons, hM] at hk
        have HK := Lib.hid hk
        have hi : ((pos : Int) == 0) = false := by
          have : ¬ (pos : Int) = 0 := by omega
          simpa using this
        clear hF hM hst hk hd hE hL hpos HQ HF
        cases M
        all_goals
          go_wp2_with (first | (go_at_call 177; refine (more_any _ _).mono ?_; rintro e w1 ⟨rfl, rfl⟩; rw [HM.out]))
        · go_ret
          exact ⟨ret_bool (by rw [HK.out]; rfl), below_iter w s _⟩
        · go_roundw
          case rel => exact ⟨pos + d, rfl, .inr ⟨by omega, by rw [HK.out]; simp⟩⟩
          case measure => simp; omega
    · have hnx : ∀ ty, (Instr.next (.pointer (some ⟨w.heap.size, 0, none⟩)) true ty).run Tryz.prog (w.iter s pos) = _ := fun ty => run_next_end w s pos ty hp
      rcases hk with k0 | ⟨hpos, hk⟩
      · exact absurd (by rw [k0]; exact h0) hp
      rw [rest_end s pos hp] at hk
      obtain rfl : Q = true := hk
      clear HQ hE hL
      go_wp2
      go_ret
      exact ⟨rfl, below_iter w s pos⟩

/-- Name, by its letters. -/
theorem name_any (s : ByteArray) (w : World) :
    Calls Tryz.prog 178 #[.string s] w fun e w' => e = .returned (.bool (nameL (letters s))) ∧ Below w.heap.size w w' := by
  by_cases h0 : 0 < s.size
  · by_cases h1 : s.size ≤ 12
    · exact name_in s _ w h0 h1 (name_few s h0 h1)
    · rw [name_long s (by omega)]; exact name_many s w (by omega)
  · obtain rfl : s = ⟨#[]⟩ := by
      apply ByteArray.ext
      apply Array.eq_empty_of_size_eq_zero
      have : s.size = s.data.size := rfl
      omega
    exact name_none w
end Go.Proofs.YtakceggnadagmaaGreatDoor

namespace Go.Proofs.YtakceggnadagmaaGreatDoor
open Go Go.RowKit GlyphMath

theorem blank_any (r : Int) (w : World) :
    Calls Tryz.prog 120 #[.int .i32 r] w fun e w' => e = .returned (.bool (blankR r)) ∧ w = w' := by
  go_enter Tryz.func120, Tryz.ntmps120
  go_wp2_with fail
  all_goals
    go_ret
    refine ⟨ret_bool (bool_iff ?_), rfl⟩
    unfold blankR
    first | (simp; done) | (simp; omega)
end Go.Proofs.YtakceggnadagmaaGreatDoor

namespace Go.Proofs
open Go.Shelf
def Tryz.lays169_ren : Go.Shelf.Ren := ⟨fun | 169 => 98 | n => n, fun | 70 => 141 | 9 => 9 | 0 => 0 | 72 => 144 | 37 => 142 | 127 => 163 | 3 => 3 | 5 => 5 | n => n, fun | n => n⟩
theorem Tryz.lays169 : Go.Proofs.Lays.n169 Tryz.prog Tryz.lays169_ren := {
  mixed := by kernel_rfl
  f169 := Tryz.func98.trans (congrArg some (by kernel_rfl))
  t0 := Tryz.underlying0
  a0 := Tryz.isAgg0
  z0 := Tryz.sizeOf0
  v0 := Tryz.zeroValue0
  t3 := Tryz.underlying3
  a3 := Tryz.isAgg3
  z3 := Tryz.sizeOf3
  v3 := Tryz.zeroValue3
  t9 := Tryz.underlying9
  a9 := Tryz.isAgg9
  z9 := Tryz.sizeOf9
  v9 := Tryz.zeroValue9
  t37 := Tryz.underlying142
  a37 := Tryz.isAgg142
  z37 := Tryz.sizeOf142
  v37 := Tryz.zeroValue142
  t70 := Tryz.underlying141
  a70 := Tryz.isAgg141
  z70 := Tryz.sizeOf141
  v70 := Tryz.zeroValue141
  t72 := Tryz.underlying144
  a72 := Tryz.isAgg144
  z72 := Tryz.sizeOf144
  v72 := Tryz.zeroValue144
  t127 := Tryz.underlying163
  a127 := Tryz.isAgg163
  z127 := Tryz.sizeOf163
  v127 := Tryz.zeroValue163 }
theorem Tryz.Builder_Extra_169 : Builder.Extra Tryz.prog Tryz.lays169_ren := {
  sizeBuilder := by kernel_rfl
  liesBuilder := by kernel_rfl
  t5 := Tryz.underlying5
  a5 := Tryz.isAgg5
  z5 := Tryz.sizeOf5
  v5 := Tryz.zeroValue5
  infoByte := by kernel_rfl
  cellsByte := by kernel_rfl
  sizeByte := by kernel_rfl
  neB5 := by decide }
def Tryz.lays119_ren : Go.Shelf.Ren := ⟨fun | 119 => 170 | n => n, fun | 21 => 21 | 4 => 4 | n => n, fun | n => n⟩
theorem Tryz.lays119 : Go.Proofs.Lays.n119 Tryz.prog Tryz.lays119_ren := {
  mixed := by kernel_rfl
  f119 := Tryz.func170.trans (congrArg some (by kernel_rfl))
  t4 := Tryz.underlying4
  a4 := Tryz.isAgg4
  z4 := Tryz.sizeOf4
  v4 := Tryz.zeroValue4
  t21 := Tryz.underlying21
  a21 := Tryz.isAgg21
  z21 := Tryz.sizeOf21
  v21 := Tryz.zeroValue21 }
theorem Tryz.utf8_ValidRune (r : Int) (w : World) :
    Calls Tryz.prog 170 #[.int .i32 r] w fun e w' => e = .returned (.bool (Lib.validRune r)) ∧ w' = w := Any.utf8_ValidRune Tryz.lays119 r w
def Tryz.lays137_ren : Go.Shelf.Ren := ⟨fun | 137 => 169 | 217 => 193 | 266 => 198 | n => n, fun | 9 => 9 | 5 => 5 | 3 => 3 | n => n, fun | n => n⟩
theorem Tryz.lays137 : Go.Proofs.Lays.n137 Tryz.prog Tryz.lays137_ren := {
  mixed := by kernel_rfl
  f137 := Tryz.func169.trans (congrArg some (by kernel_rfl))
  f217 := Tryz.func193.trans (congrArg some (by kernel_rfl))
  f266 := Tryz.func198.trans (congrArg some (by kernel_rfl))
  t3 := Tryz.underlying3
  a3 := Tryz.isAgg3
  z3 := Tryz.sizeOf3
  v3 := Tryz.zeroValue3
  t5 := Tryz.underlying5
  a5 := Tryz.isAgg5
  z5 := Tryz.sizeOf5
  v5 := Tryz.zeroValue5
  t9 := Tryz.underlying9
  a9 := Tryz.isAgg9
  z9 := Tryz.sizeOf9
  v9 := Tryz.zeroValue9 }
open Go.RowKit in
theorem Tryz.strings_IndexByte (s : ByteArray) (c : Int) (w : World) :
    Calls Tryz.prog 169 #[.string s, .int .u8 c] w fun e w' => e = .returned (.int .i64 (Lib.indexByte s.data.toList c.toNat.toUInt8)) ∧ w' = w := Any.strings_IndexByte Tryz.lays137 s c w
open Go.RowKit in
theorem Tryz.Builder_String_any_k (B b : Nat) (l : List UInt8) (w : World) (h : Lib.IsBuilderF 144 5 B b (Lib.byteCells l) w) (hBw : B ≤ w.heap.size) :
    Calls Tryz.prog 98 #[.pointer (some ⟨b, 0, none⟩)] w fun e w' => e = .returned (.string ⟨l.toArray⟩) ∧ (Lib.IsBuilderF 144 5 B b (Lib.byteCells l) w' ∧ Below B w w' ∧ Lib.OthersKept 5 (some b) w w') := Any.Builder_String_any_k Tryz.lays169 Tryz.Builder_Extra_169 B b l w h hBw
def Tryz.lays242_ren : Go.Shelf.Ren := ⟨fun | 242 => 119 | 278 => 143 | n => n, fun | 37 => 142 | 21 => 21 | 51 => 182 | 4 => 4 | 5 => 5 | 46 => 169 | n => n, fun | n => n⟩
theorem Tryz.lays242 : Go.Proofs.Lays.n242 Tryz.prog Tryz.lays242_ren := {
  mixed := by kernel_rfl
  f242 := Tryz.func119.trans (congrArg some (by kernel_rfl))
  f278 := Tryz.func143.trans (congrArg some (by kernel_rfl))
  t4 := Tryz.underlying4
  a4 := Tryz.isAgg4
  z4 := Tryz.sizeOf4
  v4 := Tryz.zeroValue4
  t5 := Tryz.underlying5
  a5 := Tryz.isAgg5
  z5 := Tryz.sizeOf5
  v5 := Tryz.zeroValue5
  t21 := Tryz.underlying21
  a21 := Tryz.isAgg21
  z21 := Tryz.sizeOf21
  v21 := Tryz.zeroValue21
  t37 := Tryz.underlying142
  a37 := Tryz.isAgg142
  z37 := Tryz.sizeOf142
  v37 := Tryz.zeroValue142
  t46 := Tryz.underlying169
  a46 := Tryz.isAgg169
  z46 := Tryz.sizeOf169
  v46 := Tryz.zeroValue169
  t51 := Tryz.underlying182
  a51 := Tryz.isAgg182
  z51 := Tryz.sizeOf182
  v51 := Tryz.zeroValue182 }
open Go.RowKit in
theorem Tryz.utf8_AppendRune_row (B : Nat) (v : Value) (n : Nat) (xs : List Value) (r : Int) (hr0 : -2147483648 ≤ r) (hr1 : r ≤ 2147483647) (w : World) (hown : w.ownsRowF B 5 1 v n xs) (hlen : n + 4 ≤ 140737488355328) (hBw : B ≤ w.heap.size) :
    Calls Tryz.prog 119 #[v, .int .i32 r] w fun e w' => ∃ v', e = .returned v' ∧ w'.ownsRowF B 5 1 v' (n + (Lib.runeCells r).length) (xs ++ Lib.runeCells r) ∧ ∃ o, (w.alloc o).grownBy w' v.ownBlock := Any.utf8_AppendRune_row Tryz.lays242 (by kernel_rfl) B v n xs r hr0 hr1 w hown hlen hBw
def Tryz.lays219_ren : Go.Shelf.Ren := ⟨fun | 219 => 201 | 217 => 193 | 225 => 172 | 224 => 171 | 267 => 202 | 266 => 198 | 314 => 203 | n => n, fun | 9 => 9 | 3 => 3 | 4 => 4 | 5 => 5 | 46 => 169 | 146 => 206 | 51 => 182 | n => n, fun | 1 => 3 | n => n⟩
theorem Tryz.lays219 : Go.Proofs.Lays.n219 Tryz.prog Tryz.lays219_ren := {
  mixed := by kernel_rfl
  f217 := Tryz.func193.trans (congrArg some (by kernel_rfl))
  f219 := Tryz.func201.trans (congrArg some (by kernel_rfl))
  f224 := Tryz.func171.trans (congrArg some (by kernel_rfl))
  f225 := Tryz.func172.trans (congrArg some (by kernel_rfl))
  f266 := Tryz.func198.trans (congrArg some (by kernel_rfl))
  f267 := Tryz.func202.trans (congrArg some (by kernel_rfl))
  f314 := Tryz.func203.trans (congrArg some (by kernel_rfl))
  t3 := Tryz.underlying3
  a3 := Tryz.isAgg3
  z3 := Tryz.sizeOf3
  v3 := Tryz.zeroValue3
  t4 := Tryz.underlying4
  a4 := Tryz.isAgg4
  z4 := Tryz.sizeOf4
  v4 := Tryz.zeroValue4
  t5 := Tryz.underlying5
  a5 := Tryz.isAgg5
  z5 := Tryz.sizeOf5
  v5 := Tryz.zeroValue5
  t9 := Tryz.underlying9
  a9 := Tryz.isAgg9
  z9 := Tryz.sizeOf9
  v9 := Tryz.zeroValue9
  t46 := Tryz.underlying169
  a46 := Tryz.isAgg169
  z46 := Tryz.sizeOf169
  v46 := Tryz.zeroValue169
  t51 := Tryz.underlying182
  a51 := Tryz.isAgg182
  z51 := Tryz.sizeOf182
  v51 := Tryz.zeroValue182
  t146 := Tryz.underlying206
  a146 := Tryz.isAgg206
  z146 := Tryz.sizeOf206
  v146 := Tryz.zeroValue206
  g1 := by kernel_rfl }
open Go.RowKit Go.Lib in
theorem Tryz.stringslite_Index_one (s : ByteArray) (c : UInt8) (w : World) :
    Calls Tryz.prog 201 #[.string s, .string ⟨#[c]⟩] w fun e w' => e = .returned (.int .i64 (Lib.indexByte s.data.toList c)) ∧ w' = w := Any.stringslite_Index_one Tryz.lays219 s c w
def Tryz.lays152_ren : Go.Shelf.Ren := ⟨fun | 152 => 144 | 137 => 169 | 119 => 170 | 224 => 171 | 225 => 172 | 217 => 193 | 266 => 198 | n => n, fun | 9 => 9 | 21 => 21 | 3 => 3 | 4 => 4 | 5 => 5 | 0 => 0 | 46 => 169 | n => n, fun | n => n⟩
theorem Tryz.lays152 : Go.Proofs.Lays.n152 Tryz.prog Tryz.lays152_ren := {
  mixed := by kernel_rfl
  f119 := Tryz.func170.trans (congrArg some (by kernel_rfl))
  f137 := Tryz.func169.trans (congrArg some (by kernel_rfl))
  f152 := Tryz.func144.trans (congrArg some (by kernel_rfl))
  f217 := Tryz.func193.trans (congrArg some (by kernel_rfl))
  f224 := Tryz.func171.trans (congrArg some (by kernel_rfl))
  f225 := Tryz.func172.trans (congrArg some (by kernel_rfl))
  f266 := Tryz.func198.trans (congrArg some (by kernel_rfl))
  t0 := Tryz.underlying0
  a0 := Tryz.isAgg0
  z0 := Tryz.sizeOf0
  v0 := Tryz.zeroValue0
  t3 := Tryz.underlying3
  a3 := Tryz.isAgg3
  z3 := Tryz.sizeOf3
  v3 := Tryz.zeroValue3
  t4 := Tryz.underlying4
  a4 := Tryz.isAgg4
  z4 := Tryz.sizeOf4
  v4 := Tryz.zeroValue4
  t5 := Tryz.underlying5
  a5 := Tryz.isAgg5
  z5 := Tryz.sizeOf5
  v5 := Tryz.zeroValue5
  t9 := Tryz.underlying9
  a9 := Tryz.isAgg9
  z9 := Tryz.sizeOf9
  v9 := Tryz.zeroValue9
  t21 := Tryz.underlying21
  a21 := Tryz.isAgg21
  z21 := Tryz.sizeOf21
  v21 := Tryz.zeroValue21
  t46 := Tryz.underlying169
  a46 := Tryz.isAgg169
  z46 := Tryz.sizeOf169
  v46 := Tryz.zeroValue169 }
open Go.RowKit Go.Lib in
theorem Tryz.strings_IndexRune_ascii (s : ByteArray) (r : Int) (w : World) (h0 : 0 ≤ r) (h1 : r < 128) :
    Calls Tryz.prog 144 #[.string s, .int .i32 r] w fun e w' => e = .returned (.int .i64 (Lib.indexByte s.data.toList r.toNat.toUInt8)) ∧ w' = w := Any.strings_IndexRune_ascii Tryz.lays152 s r w h0 h1
def Tryz.lays151_ren : Go.Shelf.Ren := ⟨fun | 151 => 121 | 152 => 144 | 137 => 169 | 119 => 170 | 224 => 171 | 225 => 172 | 217 => 193 | 266 => 198 | n => n, fun | 9 => 9 | 21 => 21 | 4 => 4 | 3 => 3 | 5 => 5 | 0 => 0 | 46 => 169 | n => n, fun | n => n⟩
theorem Tryz.lays151 : Go.Proofs.Lays.n151 Tryz.prog Tryz.lays151_ren := {
  mixed := by kernel_rfl
  f119 := Tryz.func170.trans (congrArg some (by kernel_rfl))
  f137 := Tryz.func169.trans (congrArg some (by kernel_rfl))
  f151 := Tryz.func121.trans (congrArg some (by kernel_rfl))
  f152 := Tryz.func144.trans (congrArg some (by kernel_rfl))
  f217 := Tryz.func193.trans (congrArg some (by kernel_rfl))
  f224 := Tryz.func171.trans (congrArg some (by kernel_rfl))
  f225 := Tryz.func172.trans (congrArg some (by kernel_rfl))
  f266 := Tryz.func198.trans (congrArg some (by kernel_rfl))
  t0 := Tryz.underlying0
  a0 := Tryz.isAgg0
  z0 := Tryz.sizeOf0
  v0 := Tryz.zeroValue0
  t3 := Tryz.underlying3
  a3 := Tryz.isAgg3
  z3 := Tryz.sizeOf3
  v3 := Tryz.zeroValue3
  t4 := Tryz.underlying4
  a4 := Tryz.isAgg4
  z4 := Tryz.sizeOf4
  v4 := Tryz.zeroValue4
  t5 := Tryz.underlying5
  a5 := Tryz.isAgg5
  z5 := Tryz.sizeOf5
  v5 := Tryz.zeroValue5
  t9 := Tryz.underlying9
  a9 := Tryz.isAgg9
  z9 := Tryz.sizeOf9
  v9 := Tryz.zeroValue9
  t21 := Tryz.underlying21
  a21 := Tryz.isAgg21
  z21 := Tryz.sizeOf21
  v21 := Tryz.zeroValue21
  t46 := Tryz.underlying169
  a46 := Tryz.isAgg169
  z46 := Tryz.sizeOf169
  v46 := Tryz.zeroValue169 }
open Go.RowKit Go.Lib in
theorem Tryz.strings_ContainsRune_ascii (s : ByteArray) (r : Int) (w : World) (h0 : 0 ≤ r) (h1 : r < 128) :
    Calls Tryz.prog 121 #[.string s, .int .i32 r] w fun e w' => e = .returned (.bool (decide (0 ≤ Lib.indexByte s.data.toList r.toNat.toUInt8))) ∧ w' = w := Any.strings_ContainsRune_ascii Tryz.lays151 s r w h0 h1
def Tryz.lays197_ren : Go.Shelf.Ren := ⟨fun | 197 => 81 | 260 => 107 | n => n, fun | 9 => 9 | 21 => 21 | 3 => 3 | 4 => 4 | 5 => 5 | 105 => 129 | 119 => 168 | 0 => 0 | 46 => 169 | 139 => 172 | 138 => 171 | n => n, fun | 3 => 1 | 4 => 2 | n => n⟩
theorem Tryz.lays197 : Go.Proofs.Lays.n197 Tryz.prog Tryz.lays197_ren := {
  mixed := by kernel_rfl
  f197 := Tryz.func81.trans (congrArg some (by kernel_rfl))
  f260 := Tryz.func107.trans (congrArg some (by kernel_rfl))
  t0 := Tryz.underlying0
  a0 := Tryz.isAgg0
  z0 := Tryz.sizeOf0
  v0 := Tryz.zeroValue0
  t3 := Tryz.underlying3
  a3 := Tryz.isAgg3
  z3 := Tryz.sizeOf3
  v3 := Tryz.zeroValue3
  t4 := Tryz.underlying4
  a4 := Tryz.isAgg4
  z4 := Tryz.sizeOf4
  v4 := Tryz.zeroValue4
  t5 := Tryz.underlying5
  a5 := Tryz.isAgg5
  z5 := Tryz.sizeOf5
  v5 := Tryz.zeroValue5
  t9 := Tryz.underlying9
  a9 := Tryz.isAgg9
  z9 := Tryz.sizeOf9
  v9 := Tryz.zeroValue9
  t21 := Tryz.underlying21
  a21 := Tryz.isAgg21
  z21 := Tryz.sizeOf21
  v21 := Tryz.zeroValue21
  t46 := Tryz.underlying169
  a46 := Tryz.isAgg169
  z46 := Tryz.sizeOf169
  v46 := Tryz.zeroValue169
  t105 := Tryz.underlying129
  a105 := Tryz.isAgg129
  z105 := Tryz.sizeOf129
  v105 := Tryz.zeroValue129
  t119 := Tryz.underlying168
  a119 := Tryz.isAgg168
  z119 := Tryz.sizeOf168
  t138 := Tryz.underlying171
  a138 := Tryz.isAgg171
  z138 := Tryz.sizeOf171
  v138 := Tryz.zeroValue171
  t139 := Tryz.underlying172
  a139 := Tryz.isAgg172
  z139 := Tryz.sizeOf172
  v139 := Tryz.zeroValue172
  g3 := by kernel_rfl
  g4 := by kernel_rfl }
open Go.RowKit Go.Lib in
theorem Tryz.utf8_DecodeRuneInString (s : ByteArray) (w : World) (hT : Lib.Utf8Tabs 1 2 w) :
    Calls Tryz.prog 81 #[.string s] w fun e w' => e = .returned (.tuple #[.int .i32 (Lib.decodeGo s).1, .int .i64 (Lib.decodeGo s).2]) ∧ Below w.heap.size w w' := Any.utf8_DecodeRuneInString Tryz.lays197 s w hT
end Go.Proofs

namespace Go.Proofs.YtakceggnadagmaaGreatDoor
open Go Go.RowKit GlyphMath LexMath

theorem valid_good {r : Nat} (h : GoodL r) : Utf8.valid (r : Int) = true := by
  obtain ⟨h0, h1, h2⟩ := h
  simp only [Utf8.valid, Bool.or_eq_true, Bool.and_eq_true, decide_eq_true_eq]
  omega
theorem validRune_good {r : Nat} (h : GoodL r) : Lib.validRune (r : Int) = true := by
  obtain ⟨h0, h1, h2⟩ := h
  simp only [Lib.validRune, decide_eq_true_eq]
  omega
theorem indexByte_not : ∀ (l : List UInt8) (c : UInt8), (∀ b ∈ l, b ≠ c) → Lib.indexByte l c = -1
  | [], _, _ => rfl
  | b :: l, c, h => by
    have h1 : (b == c) = false := by simpa using h b (by simp)
    have ih := indexByte_not l c fun x hx => h x (List.mem_cons_of_mem _ hx)
    unfold Lib.indexByte
    rw [h1, ih]; rfl

set_option maxRecDepth 1000000 in
theorem index_none (s : ByteArray) (w : World) (hs : ∀ b ∈ s.data.toList, b.toNat < 128) :
    Calls Tryz.prog 144 #[.string s, .int .i32 65533] w fun e w' => e = .returned (.int .i64 (-1)) ∧ Below w.heap.size w w' := by
  have HS := Lib.hid hs
  clear hs
  go_enter Tryz.func144, Tryz.ntmps144
  go_wp2_with fail
  go_loopw [] (fun w' => ∃ (pos : Nat), w' = w.iter s pos) (fun w' => s.size - w'.iterPos w.heap.size)
  case atStart => exact ⟨0, rfl⟩
  case round =>
    obtain ⟨pos, rfl⟩ := hrel
    by_cases hp : pos < s.size
    · have hlow : (s[pos]'hp).toNat < 128 := HS.out _ (by
        rw [ByteArray.getElem_eq_getElem_data]
        exact Array.getElem_mem_toList ..)
      have hnx : ∀ ty, (Instr.next (.pointer (some ⟨w.heap.size, 0, none⟩)) true ty).run Tryz.prog (w.iter s pos) = .ok (.tuple #[.bool true, .int .i64 pos, .int .i32 (((s[pos]'hp).toNat : Nat) : Int)]) (w.iter s (pos + 1)) := fun ty => by rw [run_next_any w s pos ty hp, decode_ascii s pos hp hlow]
      obtain ⟨b, hb⟩ : ∃ b, (s[pos]'hp).toNat = b := ⟨_, rfl⟩
      rw [hb] at hnx hlow
      have hb1 : ((b : Int) == 65533) = false := by
        have : ¬ (b : Int) = 65533 := by omega
        simpa using this
      clear hb hlow
      go_wp2_with fail
      go_roundw
      case rel => exact ⟨pos + 1, rfl⟩
      case measure => simp; omega
    · have hnx : ∀ ty, (Instr.next (.pointer (some ⟨w.heap.size, 0, none⟩)) true ty).run Tryz.prog (w.iter s pos) = _ := fun ty => run_next_end w s pos ty hp
      go_wp2_with fail
      go_ret
      exact ⟨rfl, below_iter w s pos⟩
end Go.Proofs.YtakceggnadagmaaGreatDoor

namespace Go.Proofs.YtakceggnadagmaaGreatDoor
open Go Go.RowKit GlyphMath LexMath

theorem extract_mem {s : ByteArray} {i j : Nat} {b : UInt8} (h : b ∈ (s.extract i j).data.toList) : b ∈ s.data.toList := by
  rw [ByteArray.data_extract, Array.toList_extract] at h
  exact List.mem_of_mem_drop (List.mem_of_mem_take (by simpa [List.extract] using h))
theorem below_drew (B : Nat) (w : World) (n : Nat) : Below B w (w.drewN n) := ⟨rfl, rfl, rfl, Nat.le_refl _, fun _ _ => rfl⟩

set_option maxHeartbeats 600000 in
set_option maxRecDepth 1000000 in
theorem index_high (s : ByteArray) (r : Nat) (w : World) (h0 : 128 ≤ r) (hg : GoodL r) (hr : r ≠ 65533) (hs : ∀ b ∈ s.data.toList, b.toNat < 128) (hz : s.size ≤ 100) :
    Calls Tryz.prog 144 #[.string s, .int .i32 (r : Int)] w fun e w' => e = .returned (.int .i64 (-1)) ∧ Below w.heap.size w w' := by
  have hV := Lib.hid (validRune_good hg)
  obtain ⟨E, hE, hf⟩ : ∃ E, Utf8.encode (r : Int) = E ∧ (2 ≤ E.size ∧ E.size ≤ 4 ∧ ∀ h : E.size - 1 < E.size, 128 ≤ (E[E.size - 1]'h).toNat) := ⟨_, rfl, encode_facts (r : Int) (valid_good hg) (by omega)⟩
  have HF := Lib.hid hf
  have HR := Lib.hid hs
  have hc1 : (128 : Int) ≤ (r : Int) := by omega
  have hc2 : ((r : Int) == 65533) = false := by
    have : ¬ (r : Int) = 65533 := by omega
    simpa using this
  have HE := Lib.hid hE
  have HZ := Lib.hid hz
  clear hf h0 hr hs hg hz hE
  go_enter Tryz.func144, Tryz.ntmps144
  go_wp2_with fail
  refine (Tryz.utf8_ValidRune _ _).mono ?_
  rintro e w1 ⟨rfl, rfl⟩
  rw [hV.out]
  go_wp2_with fail
  go_step3
  go_wp2_with fail
  obtain ⟨n, hn⟩ : ∃ n, E.size = n + 1 := ⟨E.size - 1, by have := HF.out.1; omega⟩
  have hw : wrap64 (((Utf8.encode (r : Int)).size : Int) - 1) = (n : Int) := by
    rw [HE.out, hn]
    have e : (((n + 1 : Nat) : Int) - 1) = (n : Int) := by omega
    rw [e]
    have := HF.out.2.1
    exact IntWalk.wrap64_in (n : Int) ⟨by omega, by omega⟩
  rw [hw, HE.out]
  have hne : (n : Int) < E.size := by omega
  have hn3 : (n : Int) ≤ 3 := by have := HF.out.2.1; omega
  have hn0 : (1 : Int) ≤ (n : Int) := by have := HF.out.1; omega
  have HN := Lib.hid hn
  clear hw hn
  by_cases hsz : (n : Int) < s.size
  · have hss : n < s.size := by omega
    have hee : n < E.size := by omega
    have hb1 : (s[n]'hss).toNat < 128 := HR.out _ (by
      rw [ByteArray.getElem_eq_getElem_data]
      exact Array.getElem_mem_toList ..)
    have hb2 : 128 ≤ (E[n]'hee).toNat := by
      have h := HF.out.2.2 (by have := HN.out; omega)
      have e : E.size - 1 = n := by have := HN.out; omega
      simp only [e] at h
      exact h
    have hdif : ((((s[n]'hss).toNat : Nat) : Int) != (((E[n]'hee).toNat : Nat) : Int)) = true := by simp; omega
    have HI := Lib.hid (fun (k : Nat) (W : World) => (show Calls Tryz.prog 169 #[.string (s.extract k s.size), .int .u8 (((E[n]'hee).toNat : Nat) : Int)] W fun e w' => e = .returned (.int .i64 (-1)) ∧ w' = W by
      refine (Tryz.strings_IndexByte _ _ _).mono ?_
      rintro e w' ⟨rfl, rfl⟩
      rw [indexByte_not]
      · exact ⟨rfl, rfl⟩
      · intro b hb e
        have h1 := HR.out b (extract_mem hb)
        have h2 : b.toNat = (E[n]'hee).toNat := by
          rw [e]
          have := UInt8.toNat_lt (E[n]'hee)
          simp
        omega))
    obtain ⟨m, hm⟩ : ∃ m : Nat, m = n + 1 := ⟨_, rfl⟩
    have hwr : IntKind.i64.wrap ((n : Int) + 1) = (m : Int) := by
      have e : (m : Int) = (n : Int) + 1 := by omega
      rw [e]; exact IntWalk.i64_in _ ⟨by omega, by omega⟩
    have hsl : (m : Int) ≤ (s.size : Int) := by omega
    have hs0 : (0 : Int) ≤ (m : Int) := by omega
    clear hm
    clear hb1 hb2
    go_loopw [9] (fun i w' => i = .int .i64 (n : Int) ∧ w' = w1) (fun _ _ => 0)
    case atStart => exact ⟨rfl, rfl⟩
    case round =>
      obtain ⟨rfl, rfl⟩ := hrel
      go_wp2_with fail
      go_step3
      go_wp2_with fail
      go_quiet (fail)
      go_wp2_with fail
      go_quiet ((go_at_call 169; refine (HI.out _ _).mono ?_; rintro e w2 ⟨rfl, rfl⟩; exact ⟨rfl, _, rfl⟩))
      go_wp2_with fail
      rw [Exit.noGoto_ret]
      go_wp2_with fail
      rw [Exit.noGoto_ret]
      go_wp2_with fail
      go_ret
      exact ⟨rfl, rfl, rfl, rfl, Nat.le_refl _, fun _ _ => rfl⟩
  · go_loopw [9] (fun i w' => i = .int .i64 (n : Int) ∧ w' = w1) (fun _ _ => 0)
    case atStart => exact ⟨rfl, rfl⟩
    case round =>
      obtain ⟨rfl, rfl⟩ := hrel
      go_wp2_with fail
      go_ret
      exact ⟨rfl, Below.refl _ _⟩
end Go.Proofs.YtakceggnadagmaaGreatDoor
