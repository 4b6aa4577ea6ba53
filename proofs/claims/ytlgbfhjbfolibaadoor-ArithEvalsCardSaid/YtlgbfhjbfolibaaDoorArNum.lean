/-
  Proved: a contract of arith's Num: the number that a text is. Conditions: at most 2^47 bytes; the library's two sentinel errors read as laid.
-/
import Derived.Test.YtlgbfhjbfolibaaDoorArMath
import Derived.Test.YtlgbfhjbfolibaaDoorGlyphCode
import Derived.Test.YtlgbfhjbfolibaaDoorShelf
import Derived.Shelf.Strconv.ErrVarParseInt
import Derived.Lib.Hide
import Derived.WalkKit
import Derived.WalkSpells
namespace Go.Proofs.YtlgbfhjbfolibaaDoor
open Go Go.Shelf Go.RowKit ArMath

/-- What the library's own variables hold. -/
def GlobA (w : World) : Prop := (∃ tp p, w.var? Tryd.prog "strconv.ErrSyntax" = some #[.iface tp p]) ∧ (∃ tp p, w.var? Tryd.prog "strconv.ErrRange" = some #[.iface tp p])
theorem gaSyn : Tryd.prog.globalNamed "strconv.ErrSyntax" = some 0 := by kernel_rfl
theorem gaRng : Tryd.prog.globalNamed "strconv.ErrRange" = some 1 := by kernel_rfl
theorem varA_keep {w w' : World} {n : String} {g : Nat} (hg : Tryd.prog.globalNamed n = some g) (hk : w'.heap[g]? = w.heap[g]?) {cs : Array Value} (h : w.var? Tryd.prog n = some cs) : w'.var? Tryd.prog n = some cs := by
  unfold World.var? at h ⊢
  simp only [hg, Option.bind_some] at h ⊢
  rw [hk]; exact h
theorem varA_lt {w : World} {n : String} {g : Nat} (hg : Tryd.prog.globalNamed n = some g) {cs : Array Value} (h : w.var? Tryd.prog n = some cs) : g < w.heap.size := by
  unfold World.var? at h
  simp only [hg, Option.bind_some] at h
  rcases Nat.lt_or_ge g w.heap.size with h' | h'
  · exact h'
  · simp [Array.getElem?_eq_none h'] at h
theorem GlobA.keep {w w' : World} (h : GlobA w) (hk : ∀ k, k < 7 → w'.heap[k]? = w.heap[k]?) : GlobA w' := by
  obtain ⟨⟨t2, p2, h2⟩, ⟨t3, p3, h3⟩⟩ := h
  exact ⟨⟨t2, p2, varA_keep gaSyn (hk _ (by decide)) h2⟩, ⟨t3, p3, varA_keep gaRng (hk _ (by decide)) h3⟩⟩
theorem GlobA.below {w w' : World} (h : GlobA w) (hb : Below w.heap.size w w') : GlobA w' := by
  obtain ⟨⟨t2, p2, h2⟩, ⟨t3, p3, h3⟩⟩ := h
  exact ⟨⟨t2, p2, varA_keep gaSyn (hb.block _ (varA_lt gaSyn h2)) h2⟩, ⟨t3, p3, varA_keep gaRng (hb.block _ (varA_lt gaRng h3)) h3⟩⟩
theorem GlobA.from {w w' : World} {X : Nat} (h : GlobA w) (hX : 7 ≤ X) (hb : Below X w w') : GlobA w' := h.keep fun k hk => hb.block k (by omega)

theorem parseA_ok (l : B) (hl : l.length ≤ 140737488355328) (n : Int) (h : Lib.parseIntB 64 l = .ok n) (w : World) :
    Calls Tryd.prog 18 #[.string (tx l), .int .i64 10, .int .i64 64] w fun e w' => e = .returned (.tuple #[.int .i64 n, .nilIface]) ∧ Below w.heap.size w w' := by
  refine (Tryd.strconv_ParseInt_10_at64_ok (tx l) (by rw [tx_size]; omega) n (by rw [tx_list]; exact h) w).mono fun e w' ⟨he, hw⟩ => ⟨he, ?_⟩
  rcases hw with rfl | ⟨t, rfl⟩
  · exact Below.refl _ _
  · exact ⟨rfl, rfl, rfl, by rw [Lib.bytesWorld_size]; omega, fun k hk => Lib.bytesWorld_at_old w _ t k hk⟩
theorem parseA_bad (l : B) (hl : l.length ≤ 140737488355328) (h : ∀ n, Lib.parseIntB 64 l ≠ .ok n) (w : World) (hg : GlobA w) :
    Calls Tryd.prog 18 #[.string (tx l), .int .i64 10, .int .i64 64] w fun e w' => ∃ (z : Int) (T : TypeId) (N : Nat), e = .returned (.tuple #[.int .i64 z, .iface T (.pointer (some ⟨N, 0, none⟩))]) ∧ Below w.heap.size w w' := by
  obtain ⟨⟨t2, p2, h2⟩, ⟨t3, p3, h3⟩⟩ := hg
  have hsz : (tx l).size ≤ 281474976710656 := by rw [tx_size]; omega
  cases hp : Lib.parseIntB 64 l with
  | ok n => exact absurd hp (h n)
  | range => exact (Tryd.strconv_ParseInt_10_at64_range_var (tx l) hsz (by rw [tx_list]; exact hp) t3 p3 w h3).mono fun e w' ⟨N, he, _, _, hb⟩ => ⟨_, _, N, he, hb⟩
  | _ =>
    have hc := Any.strconv_ParseInt_10_at64_syntax_var Tryd.laysC174 (tx l) hsz (by rw [tx_list]; exact hp) t2 p2 w h2
    exact hc.mono fun e w' ⟨N, he, _, _, hb⟩ => ⟨_, _, N, he, hb⟩

theorem plus_pre (l : B) : Lib.hasPrefix (tx l).data.toList (⟨#[43]⟩ : ByteArray).data.toList = decide (l.head? = some 43) := by
  rw [tx_list]
  cases l with
  | nil => rfl
  | cons c r =>
    rw [Bool.eq_iff_iff]
    simp [Lib.hasPrefix]
    exact eq_comm
theorem ret_num {a b : Int} {p q : Bool} (h : (a, p) = (b, q)) : Ending.returned (.tuple #[.int .i64 a, .bool p]) = .returned (.tuple #[.int .i64 b, .bool q]) := by
  obtain ⟨rfl, rfl⟩ := Prod.mk.inj h
  rfl

/-- The number that a text is. -/
theorem num_any (l : B) (hl : l.length ≤ 140737488355328) (w : World) (hg : GlobA w) :
    Calls Tryd.prog 11 #[.string (tx l)] w fun e w' => e = .returned (.tuple #[.int .i64 (numM l).1, .bool (numM l).2]) ∧ Below w.heap.size w w' := by
  have HPX := Lib.hid (plus_pre l)
  by_cases h : ∃ n, Lib.parseIntB 64 l = .ok n
  · obtain ⟨n, hn⟩ := h
    have HP := Lib.hid (parseA_ok l hl n hn)
    obtain ⟨Q, hQ⟩ : ∃ Q, decide (l.head? = some 43) = Q := ⟨_, rfl⟩
    rw [hQ] at HPX
    have HE := Lib.hid (show numM l = (if Q then (0, false) else (n, true)) from by
      unfold numM
      rw [← hQ, hn]
      by_cases hh : l.head? = some 43 <;> simp [hh])
    generalize tx l = s at *
    clear hn hQ hl hg
    cases Q
    all_goals
      go_enter Tryd.func11, Tryd.ntmps11
      go_wp2_with (first
        | (go_at_call 18; (with_reducible refine (HP.out _).mono ?_); rintro e w1 ⟨rfl, hb1⟩; have HB1 := Lib.hid hb1; clear hb1)
        | (go_at_call 19; (with_reducible refine (prefix_any _ _ _).mono ?_); rintro e w2 ⟨rfl, rfl⟩; rw [HPX.out]))
      go_ret2
      exact ⟨ret_num (by rw [HE.out]; rfl), HB1.out⟩
  · have HP := Lib.hid (fun W hW => parseA_bad l hl (fun n hn => h ⟨n, hn⟩) W hW)
    have HG := Lib.hid hg
    have HE := Lib.hid (show numM l = (0, false) from by
      unfold numM
      split
      · rfl
      · cases hp : Lib.parseIntB 64 l with
        | ok n => exact absurd ⟨n, hp⟩ h
        | _ => rfl)
    generalize tx l = s at *
    clear h hl hg
    go_enter Tryd.func11, Tryd.ntmps11
    go_wp2_with (first
      | (go_at_call 18; (with_reducible refine (HP.out _ HG.out).mono ?_); rintro e w1 ⟨z, TT, NN, rfl, hb1⟩; have HB1 := Lib.hid hb1; clear hb1))
    go_ret2
    exact ⟨ret_num (by rw [HE.out]), HB1.out⟩
end Go.Proofs.YtlgbfhjbfolibaaDoor
