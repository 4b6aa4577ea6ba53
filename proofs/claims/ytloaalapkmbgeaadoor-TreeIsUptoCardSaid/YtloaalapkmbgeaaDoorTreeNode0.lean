/-
  Proved: a contract of a walk's node: what comes next behind a node, or that it may not be. Conditions: the nodes lie in memory, the program's shapes lie as they should.
-/
import Derived.Test.YtloaalapkmbgeaaDoorTreeFits
import Derived.Test.YtloaalapkmbgeaaDoorTreeSpells
namespace Go.Proofs.YtloaalapkmbgeaaDoor
open Go Go.RowKit GlyphMath LexMath TreeMath

/-- What node answers. -/
def NodeEnd (X : Nat) (nv : Value) (r : Option Nat) (e : Ending) (w' : World) : Prop := match r with
  | some m => e = .returned (.bool true) ∧ w'.heap[X]? = some (.cells #[nv, .int .i64 (m : Int)] 41 (0, 0))
  | none => e = .returned (.bool false)
def NodeDo (w0 : World) (X : Nat) (nv : Value) (ns : List Nd) (f : Nat) : Prop := ∀ (k : Int) (next : Nat) (w : World), Below w0.heap.size w0 w → w.heap[X]? = some (.cells #[nv, .int .i64 (next : Int)] 41 (0, 0)) → ns.length - next ≤ f →
  Calls Tryd.prog 15 #[.pointer (some ⟨X, 0, none⟩), .int .i64 k] w fun e w' => Kept (fun b => b = X) w w' ∧ Below w0.heap.size w0 w' ∧ NodeEnd X nv (walkT ns f k next) e w'

theorem walk_stop {ns : List Nd} {k : Int} {next : Nat} (h : k ≠ (next : Int) ∨ ns.length ≤ next) : ∀ f, walkT ns f k next = none
  | 0 => rfl
  | f + 1 => by
    rw [walkT]
    by_cases hk : k = (next : Int)
    · have h2 : ns[next]? = none := List.getElem?_eq_none (h.resolve_left fun e => e hk)
      rw [if_pos hk, h2]
    · rw [if_neg hk]
theorem kids_more {walk : Int → Nat → Option Nat} {ns : List Nd} {n : Nd} (hw : ∀ k next m, walk k next = some m → next < m) : ∀ (ks : List Int) (i next m : Nat), kidsT walk ns n i ks next = some m → next ≤ m
  | [], i, next, m, h => by
    rw [kidsT] at h
    have := Option.some.inj h
    omega
  | k :: ks, i, next, m, h => by
    rw [kidsT] at h
    cases hk : walk k next with
    | none => rw [hk] at h; cases h
    | some m' =>
      rw [hk] at h
      have h1 := hw k next m' hk
      simp only at h
      cases hn : ns[k.toNat]? with
      | none => rw [hn] at h; cases h
      | some kd =>
        rw [hn] at h
        simp only at h
        split at h
        · have := kids_more hw ks (i + 1) m' m h
          omega
        · cases h
theorem walk_more {ns : List Nd} : ∀ (f : Nat) (k : Int) (next m : Nat), walkT ns f k next = some m → next < m ∧ k = (next : Int) ∧ next < ns.length
  | 0, k, next, m, h => by cases h
  | f + 1, k, next, m, h => by
    rw [walkT] at h
    split at h
    · rename_i hk
      cases hn : ns[next]? with
      | none => rw [hn] at h; cases h
      | some n =>
        rw [hn] at h
        simp only at h
        split at h
        · have := kids_more (fun k next m h => (walk_more f k next m h).1) n.kids 0 (next + 1) m h
          exact ⟨by omega, hk, (List.getElem?_eq_some_iff.1 hn).1⟩
        · cases h
    · cases h

set_option maxRecDepth 100000 in
theorem node_stop {w0 : World} {X : Nat} {np : Option Addr} {nc : Nat} {ns : List Nd} {k : Int} {next : Nat} {f : Nat} {w : World} (h : k ≠ (next : Int) ∨ ns.length ≤ next) (hb : Below w0.heap.size w0 w) (hw : w.heap[X]? = some (.cells #[.slice np ns.length nc, .int .i64 (next : Int)] 41 (0, 0))) :
    Calls Tryd.prog 15 #[.pointer (some ⟨X, 0, none⟩), .int .i64 k] w fun e w' => Kept (fun b => b = X) w w' ∧ Below w0.heap.size w0 w' ∧ NodeEnd X (.slice np ns.length nc) (walkT ns f k next) e w' := by
  rw [walk_stop h f]
  have HB := Lib.hid hb
  have c0 : w.cell? ⟨X, 0, none⟩ = some (.slice np ns.length nc) := cell_plain hw 0
  have c1 : w.cell? ⟨X, 1, none⟩ = some (.int .i64 (next : Int)) := cell_plain hw 1
  generalize ns.length = N at c0 h ⊢
  clear hw hb
  by_cases hk : k = (next : Int)
  · subst hk
    have hn2 : N ≤ next := h.resolve_left fun e => e rfl
    have hn : (N : Int) ≤ (next : Int) := by omega
    clear h
    go_enter Tryd.func15, Tryd.ntmps15
    go_wp2_with fail
    go_ret
    exact ⟨Kept.refl _ _, HB.out, rfl⟩
  · have hne : (k != (next : Int)) = true := by simpa using hk
    clear h hk
    go_enter Tryd.func15, Tryd.ntmps15
    go_wp2_with fail
    go_ret
    exact ⟨Kept.refl _ _, HB.out, rfl⟩

/-- What a node's rows give. -/
theorem NsAt.node {w : World} {p : Option Addr} {n0 c : Nat} {ns : List Nd} (h : NsAt w (.slice p n0 c) ns) {i : Nat} {n : Nd} (hn : ns[i]? = some n) : ∃ b o, p = some ⟨b, o, none⟩ ∧ ∃ kp wp pp ap rp kc wc pc ac rc, 
    KidsAt w (.slice kp n.kids.length kc) n.kids ∧ WsAt w (.slice wp n.words.length wc) n.words ∧ PatsAt w (.slice pp n.pats.length pc) n.pats ∧ AsAt w (.slice ap n.assigns.length ac) n.assigns ∧ AsAt w (.slice rp n.redirs.length rc) n.redirs ∧
    w.cell? ⟨b, o + i * 7, none⟩ = some (.string (T n.op)) ∧ w.cell? ⟨b, o + i * 7 + 1, none⟩ = some (.string (T n.name)) ∧ w.cell? ⟨b, o + i * 7 + 2, none⟩ = some (.slice kp n.kids.length kc) ∧ w.cell? ⟨b, o + i * 7 + 3, none⟩ = some (.slice wp n.words.length wc) ∧ w.cell? ⟨b, o + i * 7 + 4, none⟩ = some (.slice pp n.pats.length pc) ∧ w.cell? ⟨b, o + i * 7 + 5, none⟩ = some (.slice ap n.assigns.length ac) ∧ w.cell? ⟨b, o + i * 7 + 6, none⟩ = some (.slice rp n.redirs.length rc) := by
  obtain ⟨b, o, rfl⟩ := SlAt.ptr h hn
  obtain ⟨cs, hP, hc⟩ := SlAt.cell h rfl hn
  obtain ⟨kv, wv, pv, av, rv, rfl, h1, h2, h3, h4, h5⟩ := hP.is
  obtain ⟨kp, kc, rfl⟩ := KidsAt.is h1
  obtain ⟨wp, wc, rfl⟩ := WsAt.is h2
  obtain ⟨pp, pc, rfl⟩ := PatsAt.is h3
  obtain ⟨ap, ac, rfl⟩ := AsAt.is h4
  obtain ⟨rp, rc, rfl⟩ := AsAt.is h5
  exact ⟨b, o, rfl, kp, wp, pp, ap, rp, kc, wc, pc, ac, rc, h1, h2, h3, h4, h5, (by have := hc 0 _ rfl; rwa [Nat.add_zero] at this), hc 1 _ rfl, hc 2 _ rfl, hc 3 _ rfl, hc 4 _ rfl, hc 5 _ rfl, hc 6 _ rfl⟩
end Go.Proofs.YtloaalapkmbgeaaDoor
