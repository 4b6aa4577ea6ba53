/-
  Proved: the walk of the law ParseDeep: it answers true and changes nothing that was there. Conditions: the lexer's table of signs lies in memory.
-/
import Derived.Test.YtakceggnadagmaaGreatDoorPj36
namespace Go.Proofs.YtakceggnadagmaaGreatDoor
open Go Go.RowKit GlyphMath LexMath TreeMath ParseMath

def preB (way : Nat) : ByteArray := if way = 0 then ⟨#[123, 32]⟩ else if way = 1 then ⟨#[40, 32]⟩ else ⟨#[105, 102, 32, 97, 59, 32, 116, 104, 101, 110, 32]⟩
def postB (way : Nat) : ByteArray := if way = 0 then ⟨#[59, 32, 125]⟩ else if way = 1 then ⟨#[32, 41]⟩ else ⟨#[59, 32, 102, 105]⟩
/-- The deep text. -/
def deepB (way : Nat) : Nat → ByteArray
  | 0 => ⟨#[97]⟩
  | n + 1 => (preB way ++ deepB way n) ++ postB way
theorem app_list (a b : ByteArray) : (a ++ b).data.toList = a.data.toList ++ b.data.toList := by simp
theorem pre_low : ∀ way, way < 3 → (preB way).data.toList.map (·.toNat) = deepPre way ∧ ∀ b ∈ (preB way).data.toList, 0 < b.toNat ∧ b.toNat < 128 := by decide +kernel
theorem post_low : ∀ way, way < 3 → (postB way).data.toList.map (·.toNat) = deepPost way ∧ ∀ b ∈ (postB way).data.toList, 0 < b.toNat ∧ b.toNat < 128 := by decide +kernel
theorem a_low : (⟨#[97]⟩ : ByteArray).data.toList.map (·.toNat) = [97] ∧ ∀ b ∈ (⟨#[97]⟩ : ByteArray).data.toList, 0 < b.toNat ∧ b.toNat < 128 := by decide +kernel
theorem deepB_low {way : Nat} (hw : way < 3) : ∀ n, (deepB way n).data.toList.map (·.toNat) = deepX way n ∧ ∀ b ∈ (deepB way n).data.toList, 0 < b.toNat ∧ b.toNat < 128
  | 0 => a_low
  | n + 1 => by
    have ih := deepB_low hw n
    have h1 := pre_low way hw
    have h2 := post_low way hw
    rw [deepB, app_list, app_list, deepX]
    refine ⟨?_, fun b hb => ?_⟩
    · rw [List.map_append, List.map_append, ih.1, h1.1, h2.1, List.append_assoc]
    · rcases List.mem_append.1 hb with hb | hb
      · rcases List.mem_append.1 hb with hb | hb
        · exact h1.2 b hb
        · exact ih.2 b hb
      · exact h2.2 b hb
theorem ends_len : ∀ way, way < 3 → (preB way).size + (postB way).size ≤ 15 := by decide +kernel
theorem deepB_le {way : Nat} (hw : way < 3) : ∀ n, (deepB way n).size ≤ 1 + n * 15
  | 0 => by rw [deepB]; decide +kernel
  | n + 1 => by
    have ih := deepB_le hw n
    have := ends_len way hw
    rw [deepB, ByteArray.size_append, ByteArray.size_append]
    omega
theorem deep_says {way : Nat} (hw : way < 3) {n : Nat} (hn : n ≤ 30) : (n < 20 ∧ ∃ ns, parseB (deepB way n) = .ok ns) ∨ (20 ≤ n ∧ ∃ a, parseB (deepB way n) = .error (a, 3)) := by
  have hc : deepChk way n = true := by
    have : way = 0 ∨ way = 1 ∨ way = 2 := by omega
    rcases this with rfl | rfl | rfl
    · exact deep_0 n (by omega)
    · exact deep_1 n (by omega)
    · exact deep_2 n (by omega)
  have hl := deepB_low hw n
  have hz : (deepX way n).length ≤ 2000 := by
    have h1 := deepB_le hw n
    have h2 : (deepB way n).size = (deepX way n).length := by rw [← hl.1, List.length_map]; rfl
    omega
  rw [parseB_low hl.1 hl.2 hz]
  unfold deepChk at hc
  cases hm : parseN (deepX way n).length (deepX way n) with
  | ok ns =>
    rw [hm] at hc
    exact .inl ⟨by simpa [deepTell] using hc, ns, rfl⟩
  | error x =>
    obtain ⟨a, c⟩ := x
    rw [hm] at hc
    simp only [deepTell, Bool.and_eq_true, decide_eq_true_eq] at hc
    obtain ⟨h1, rfl⟩ := hc
    exact .inr ⟨h1, a, rfl⟩
/-- What Parse answers to the deep text. -/
theorem deep_calls {way : Nat} (hw : way < 3) {n : Nat} (hn : n ≤ 30) (w : World) (hS : Signs w) : Calls Tryz.prog 11 #[.string (deepB way n)] w fun e w' => ∃ p m c a, e = .returned (.tuple #[.agg #[.slice p m c, .int .i64 0], .int .i64 a, .int .i64 (if n < 20 then 0 else 3)]) ∧ Below w.heap.size w w' := by
  refine (pparse_any (deepB way n) w hS).mono fun e w' h => ?_
  unfold PaEnd at h
  rcases deep_says hw hn with ⟨h1, ns, h2⟩ | ⟨h1, a, h2⟩
  · rw [h2] at h
    obtain ⟨v, rfl, ⟨p, c, rfl⟩, -, h4⟩ := h
    rw [if_pos h1]
    exact ⟨_, _, _, _, rfl, h4⟩
  · rw [h2] at h
    obtain ⟨-, rfl, h4⟩ := h
    rw [if_neg (by omega)]
    exact ⟨_, _, _, _, rfl, h4⟩

set_option maxHeartbeats 4000000 in
set_option maxRecDepth 100000 in
theorem deep_in (n way : Nat) (w : World) (hn : n ≤ 30) (hw : way < 3) (hS : Signs w) : Calls Tryz.prog 6 #[.int .i64 (n : Int), .int .i64 (way : Int)] w fun e w' => e = .returned (.bool true) ∧ Below w.heap.size w w' := by
  have HT := Lib.hid (deep_calls hw hn w hS)
  have HN := Lib.hid hn
  have HW := Lib.hid hw
  have HSG := Lib.hid hS
  have h0 : ¬ (n : Int) < 0 := by omega
  have h30 : ¬ (30 : Int) < (n : Int) := by omega
  have hn30 : (n : Int) ≤ 30 := by omega
  have hw3 : way = 0 ∨ way = 1 ∨ way = 2 := by omega
  have w0 : ¬ (way : Int) < 0 := by omega
  have w2 : ¬ (2 : Int) < (way : Int) := by omega
  have w2' : (way : Int) ≤ 2 := by omega
  clear hS hn hw
  go_enter Tryz.func6, Tryz.ntmps6
  go_wp2_with fail
  go_loopw [5, 6] (fun v i wr => ∃ (k : Nat), i = .int .i64 (k : Int) ∧ k ≤ n ∧ v = .string (deepB way k) ∧ w = wr) (fun _ i _ => n - (intOf i).toNat)
  case atStart => exact ⟨0, rfl, Nat.zero_le _, rfl, rfl⟩
  case round =>
    obtain ⟨k, rfl, hk, rfl, rfl⟩ := hrel
    have hsz := deepB_le HW.out k
    have hn9 := HN.out
    by_cases hlt : k < n
    · obtain ⟨S, hSe⟩ : ∃ S, deepB way k = S := ⟨_, rfl⟩
      rw [hSe] at hsz ⊢
      have hS0 : (S.size : Int) ≤ 500 := by omega
      have HSE := Lib.hid hSe
      have HK := Lib.hid hlt
      have hk0 : (k : Int) < (n : Int) := by omega
      have hk1 : (k : Int) + 1 ≤ 9223372036854775807 := by omega
      clear hSe hsz hlt hk h0 h30 hn9 w0 w2 w2'
      rcases hw3 with rfl | rfl | rfl
      · have s1 : ¬ (9223372036854775807 : Int) < 2 + (S.size : Int) := by omega
        have s2 : ¬ (9223372036854775807 : Int) < 2 + (S.size : Int) + 3 := by omega
        go_wp2_with fail
        exact ⟨⟨k + 1, by simp, HK.out, by rw [deepB, HSE.out]; rfl, trivial⟩, by have := HK.out; simp [intOf]; omega⟩
      · have s1 : ¬ (9223372036854775807 : Int) < 2 + (S.size : Int) := by omega
        have s2 : ¬ (9223372036854775807 : Int) < 2 + (S.size : Int) + 2 := by omega
        go_wp2_with fail
        exact ⟨⟨k + 1, by simp, HK.out, by rw [deepB, HSE.out]; rfl, trivial⟩, by have := HK.out; simp [intOf]; omega⟩
      · have s1 : ¬ (9223372036854775807 : Int) < 11 + (S.size : Int) := by omega
        have s2 : ¬ (9223372036854775807 : Int) < 11 + (S.size : Int) + 4 := by omega
        go_wp2_with fail
        exact ⟨⟨k + 1, by simp, HK.out, by rw [deepB, HSE.out]; rfl, trivial⟩, by have := HK.out; simp [intOf]; omega⟩
    · obtain rfl : k = n := by omega
      have HT2 := Lib.hid HT.out
      obtain ⟨S, hSe⟩ : ∃ S, deepB way k = S := ⟨_, rfl⟩
      rw [hSe] at HT2 ⊢
      have hk0 : ¬ (k : Int) < (k : Int) := by omega
      by_cases h20 : k < 20
      · rw [if_pos h20] at HT2
        have g20 : ¬ (20 : Int) ≤ (k : Int) := by omega
        clear h20 hSe hsz hlt hk h0 h30 hn9 w0 w2 w2' hw3
        go_wp2_with (first
          | (go_at_call 11; refine HT2.out.mono ?_; rintro e w3 ⟨p, m, c, a, rfl, hb⟩; have HB := Lib.hid hb; clear hb)
          | (go_at_call 14; refine (known_any _ (signs_new (signs_below HSG.out HB.out) _)).mono ?_; rintro e w4 ⟨rfl, hb2⟩; have HB2 := Lib.hid hb2; clear hb2))
        go_ret
        exact ⟨rfl, (HB.out.alloc HB.out.size (.cells #[.slice p m c, .int .i64 0] 24)).trans (HB2.out.mono (by have := HB.out.size; rw [World.size_alloc]; omega))⟩
      · rw [if_neg h20] at HT2
        have g20 : (20 : Int) ≤ (k : Int) := by omega
        clear h20 hSe hsz hlt hk h0 h30 hn9 w0 w2 w2' hw3
        go_wp2_with (first
          | (go_at_call 11; refine HT2.out.mono ?_; rintro e w3 ⟨p, m, c, a, rfl, hb⟩; have HB := Lib.hid hb; clear hb)
          | (go_at_call 14; refine (known_any _ (signs_new (signs_below HSG.out HB.out) _)).mono ?_; rintro e w4 ⟨rfl, hb2⟩; have HB2 := Lib.hid hb2; clear hb2))
        go_ret
        exact ⟨rfl, (HB.out.alloc HB.out.size (.cells #[.slice p m c, .int .i64 0] 24)).trans (HB2.out.mono (by have := HB.out.size; rw [World.size_alloc]; omega))⟩
/-- Where it stops at once. -/
theorem deep_out (n way : Int) (w : World) (h : n < 0 ∨ 30 < n ∨ way < 0 ∨ 2 < way) : Calls Tryz.prog 6 #[.int .i64 n, .int .i64 way] w fun e w' => e = .returned (.bool true) ∧ Below w.heap.size w w' := by
  by_cases h0 : n < 0
  · clear h
    go_enter Tryz.func6, Tryz.ntmps6
    go_wp2_with fail
    go_ret
    exact ⟨rfl, Below.refl _ _⟩
  by_cases h1 : 30 < n
  · clear h
    go_enter Tryz.func6, Tryz.ntmps6
    go_wp2_with fail
    go_ret
    exact ⟨rfl, Below.refl _ _⟩
  by_cases h2 : way < 0
  · clear h
    go_enter Tryz.func6, Tryz.ntmps6
    go_wp2_with fail
    go_ret
    exact ⟨rfl, Below.refl _ _⟩
  have h3 : 2 < way := by omega
  clear h
  go_enter Tryz.func6, Tryz.ntmps6
  go_wp2_with fail
  go_ret
  exact ⟨rfl, Below.refl _ _⟩
theorem deep_law (n way : Int) (w : World) (hS : Signs w) : Calls Tryz.prog 6 #[.int .i64 n, .int .i64 way] w fun e w' => e = .returned (.bool true) ∧ Below w.heap.size w w' := by
  by_cases h : n < 0 ∨ 30 < n ∨ way < 0 ∨ 2 < way
  · exact deep_out n way w h
  · obtain ⟨k, rfl⟩ : ∃ k : Nat, n = (k : Int) := ⟨n.toNat, by omega⟩
    obtain ⟨m, rfl⟩ : ∃ m : Nat, way = (m : Int) := ⟨way.toNat, by omega⟩
    exact deep_in k m w (by omega) (by omega) hS
end Go.Proofs.YtakceggnadagmaaGreatDoor
