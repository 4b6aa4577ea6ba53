/-
  Proved: how bindings lie in memory; what a map of names to numbers answers, and how it is filled. Conditions: as each says.
-/
import Derived.Test.YtlgbfhjbfolibaaDoorArMem
import Derived.Carry
namespace Go.Proofs.YtlgbfhjbfolibaaDoor
open Go Go.Shelf Go.RowKit ArMath

/-- Bindings, in memory, for whoever reads them. -/
def VarsAt (w : World) (vv : Value) (vs : Vars) : Prop := ∃ p c, vv = .slice p vs.length c ∧ vs.length ≤ 20 ∧ ∀ (j : Nat) (x : B × B), vs[j]? = some x → x.1.length ≤ 140737488355328 ∧ x.2.length ≤ 140737488355328 ∧ ∃ b o, p = some ⟨b, o, none⟩ ∧ w.cell? ⟨b, o + j * 2, none⟩ = some (.string (tx x.1)) ∧ w.cell? ⟨b, o + j * 2 + 1, none⟩ = some (.string (tx x.2))
theorem VarsAt.below {w w' : World} {B : Nat} {vv : Value} {vs : Vars} (h : VarsAt w vv vs) (hw : w.heap.size ≤ B) (hb : Below B w w') : VarsAt w' vv vs := by
  obtain ⟨p, c, hv, h20, h⟩ := h
  refine ⟨p, c, hv, h20, fun j x hx => ?_⟩
  obtain ⟨h1, h2, b, o, h3, h4, h5⟩ := h j x hx
  have hlt := World.block_lt_of_cell? _ _ h4
  exact ⟨h1, h2, b, o, h3, (World.cell?_of_block (hb.block b (Nat.lt_of_lt_of_le hlt hw))).trans h4, (World.cell?_of_block (hb.block b (Nat.lt_of_lt_of_le hlt hw))).trans h5⟩

theorem env_none : ∀ (vs : Vars) (n : B), vs.any (fun x => x.1 == n) = false → envM vs n = (0, true)
  | [], n, _ => rfl
  | (k, v) :: r, n, h => by
    rw [List.any_cons, Bool.or_eq_false_iff] at h
    unfold envM
    rw [if_neg (by simpa using h.1)]
    exact env_none r n h.2
theorem env_snoc_old : ∀ (vs : Vars) (k v n : B), vs.any (fun x => x.1 == n) = true → envM (vs ++ [(k, v)]) n = envM vs n
  | [], _, _, _, h => by simp at h
  | (a, b) :: r, k, v, n, h => by
    rw [List.cons_append]
    unfold envM
    by_cases e : a = n
    · rw [if_pos e, if_pos e]
    · rw [if_neg e, if_neg e]
      refine env_snoc_old r k v n ?_
      rw [List.any_cons, Bool.or_eq_true] at h
      exact h.resolve_left (by simpa using e)
theorem env_snoc_new : ∀ (vs : Vars) (k v n : B), vs.any (fun x => x.1 == n) = false → envM (vs ++ [(k, v)]) n = if k = n then valM v else (0, true)
  | [], _, _, _, _ => rfl
  | (a, b) :: r, k, v, n, h => by
    rw [List.any_cons, Bool.or_eq_false_iff] at h
    rw [List.cons_append]
    unfold envM
    rw [if_neg (by simpa using h.1)]
    exact env_snoc_new r k v n h.2

theorem says_nil : MapSays (.map []) [] := ⟨Maps.isMap_empty, fun n => ⟨rfl, fun h => by simp at h⟩⟩
/-- A name that is there already: nothing is stored. -/
theorem says_old {D : DataW Unit} {vs : Vars} {k v : B} (h : MapSays D vs) (hk : vs.any (fun x => x.1 == k) = true) : MapSays D (vs ++ [(k, v)]) := by
  refine ⟨h.1, fun n => ?_⟩
  rw [List.any_append]
  by_cases e : k = n
  · subst e
    refine ⟨by rw [(h.2 k).1, hk]; simp, fun _ z => ?_⟩
    rw [env_snoc_old vs k v k hk]
    exact (h.2 k).2 hk z
  · have e2 : [(k, v)].any (fun x => x.1 == n) = false := by simpa using e
    rw [e2, Bool.or_false]
    refine ⟨(h.2 n).1, fun hn z => ?_⟩
    rw [env_snoc_old vs k v n hn]
    exact (h.2 n).2 hn z
/-- A name that is not there yet. -/
theorem says_new {D : DataW Unit} {vs : Vars} {k v : B} (h : MapSays D vs) (hk : vs.any (fun x => x.1 == k) = false) : MapSays (D.put (.string k) (.agg [.lit (.int .i64 (valM v).1), .lit (.bool (valM v).2)])) (vs ++ [(k, v)]) := by
  refine ⟨h.1.put _ _, fun n => ?_⟩
  rw [List.any_append]
  by_cases e : k = n
  · subst e
    refine ⟨by rw [Maps.has_put_same h.1 (show WideAt.IsKeyLit (.string k) from trivial)]; simp, fun _ z => ?_⟩
    rw [env_snoc_new vs k v k hk, if_pos rfl]
    exact Maps.atKey_put_same h.1 (show WideAt.IsKeyLit (.string k) from trivial) _ _
  · have e2 : [(k, v)].any (fun x => x.1 == n) = false := by simpa using e
    have e3 : (Lit.string n) ≠ Lit.string k := fun h => e (by cases h; rfl)
    rw [e2, Bool.or_false]
    refine ⟨by rw [Maps.has_put_other e3]; exact (h.2 n).1, fun hn z => ?_⟩
    rw [env_snoc_old vs k v n hn, Maps.atKey_put_other e3]
    exact (h.2 n).2 hn z

theorem valE_mk (n : Int) (b : Bool) : valE (.agg #[.int .i64 n, .bool b]) = some (.agg [.lit (.int .i64 n), .lit (.bool b)], []) := rfl
theorem valL_inv {l : List Value} {n : Int} {b : Bool} {ps : List MemPlace} (h : valL l = some (.agg [.lit (.int .i64 n), .lit (.bool b)], ps)) : l = [.int .i64 n, .bool b] := by
  unfold valL at h
  split at h
  · simp at h
    obtain ⟨⟨rfl, rfl⟩, -⟩ := h
    rfl
  · cases h
theorem valE_inv {v : Value} {n : Int} {b : Bool} {ps : List MemPlace} (h : valE v = some (.agg [.lit (.int .i64 n), .lit (.bool b)], ps)) : v = .agg #[.int .i64 n, .bool b] := by
  cases v with
  | agg cs =>
    have := valL_inv h
    congr 1
    exact Array.ext' this
  | _ => cases h
theorem zeroVal (w : World) : (zeroValue 89).run Tryd.prog w = .ok (.agg #[.int .i64 0, .bool false]) w := by kernel_rfl
theorem keyS {n : B} (h : n.length ≤ 140737488355328) : keyOf Tryd.prog 9 (.string (tx n)) = some (.string n) := by
  have := Go.WideMaps.keyOf_string_mk (P := Tryd.prog) Tryd.underlying9 (s := tx n) (by rw [tx_size]; unfold maxLen; omega)
  rwa [tx_list] at this
/-- 'v, ok := m[n]'. -/
theorem look_at {w : World} {b m : Nat} {D : DataW Unit} {vs : Vars} (h : w.ownsMap Tryd.prog 9 valE b m D) (hs : MapSays D vs) (n : B) (hn : n.length ≤ 140737488355328) :
    (Instr.lookup 41 (.map (some b)) (.string (tx n)) true).run Tryd.prog w = .ok (.tuple #[.agg #[.int .i64 (if vs.any (fun x => x.1 == n) then (envM vs n).1 else 0), .bool (if vs.any (fun x => x.1 == n) then (envM vs n).2 else false)], .bool (vs.any (fun x => x.1 == n))]) w := by
  obtain ⟨v, ps, hrun, hv⟩ := h.look_ok (Maps.string_keyed Tryd.underlying9) Tryd.underlying41 (zeroVal w) (valE_mk 0 false) (keyS hn)
  obtain ⟨h1, h2⟩ := hs.2 n
  rw [h1] at hrun
  cases hc : vs.any (fun x => x.1 == n) with
  | true =>
    rw [h2 hc] at hv
    rw [hrun, hc, valE_inv hv]
    rfl
  | false =>
    rw [Maps.atKey_of_not_has (h1.trans hc)] at hv
    rw [hrun, hc, valE_inv hv]
    rfl
end Go.Proofs.YtlgbfhjbfolibaaDoor
