/-
  Proved: how a row of any elements lies in memory, what a slice of one is, what an append reads of one. Conditions: as each says.
-/
import Derived.Test.YtfepkhlifpbkfaaDoorRows
import Derived.Lib.Hide
import Derived.WalkKit
import Derived.IntWalk
import Derived.OwnWalk
import Derived.Below
import Derived.Laws.Cover1
import Derived.Deep.AppendSrc
import Derived.BigQuiet
import Derived.Deep.QuietTactic
namespace Go.Proofs.YtfepkhlifpbkfaaDoor
open Go Go.RowKit

/-! ### Rows of elements of so many cells -/
/-- How an element is laid. -/
structure Enc {α : Type} (sz : Nat) (enc : α → List Value) : Prop where
  len : ∀ x, (enc x).length = sz
  one : ∀ x, ∀ u ∈ enc x, u.oneCell' = true
  pos : 0 < sz
def bC (x : ByteArray × ByteArray) : List Value := [.string x.1, .string x.2]
def fC (x : ByteArray × Int) : List Value := [.string x.1, .int .i64 x.2]
def sC (x : ByteArray) : List Value := [.string x]
theorem bE : Enc 2 bC := ⟨fun _ => rfl, fun x u hu => by simp [bC] at hu; rcases hu with rfl | rfl <;> rfl, by decide⟩
theorem fE : Enc 2 fC := ⟨fun _ => rfl, fun x u hu => by simp [fC] at hu; rcases hu with rfl | rfl <;> rfl, by decide⟩
theorem sE : Enc 1 sC := ⟨fun _ => rfl, fun x u hu => by simp [sC] at hu; subst hu; rfl, by decide⟩
section
variable {α : Type} {sz : Nat} {enc : α → List Value}
theorem enc_flat (E : Enc sz enc) : ∀ l : List α, (l.flatMap enc).length = l.length * sz
  | [] => by simp
  | x :: l => by rw [List.flatMap_cons, List.length_append, E.len, enc_flat E l, List.length_cons, Nat.succ_mul, Nat.add_comm]
theorem enc_get (E : Enc sz enc) : ∀ (l : List α) (k : Nat) (x : α), l[k]? = some x → ∀ i u, (enc x)[i]? = some u → (l.flatMap enc)[k * sz + i]? = some u
  | [], k, x, h, _, _, _ => by simp at h
  | y :: l, 0, x, h, i, u, hu => by
    simp only [List.getElem?_cons_zero, Option.some.injEq] at h
    subst h
    have hi := (List.getElem?_eq_some_iff.1 hu).1
    rw [List.flatMap_cons, Nat.zero_mul, Nat.zero_add, List.getElem?_append_left hi]
    exact hu
  | y :: l, k + 1, x, h, i, u, hu => by
    have hy := E.len y
    rw [List.flatMap_cons, show (k + 1) * sz + i = (enc y).length + (k * sz + i) by rw [hy, Nat.succ_mul]; omega, List.getElem?_append_right (by omega), Nat.add_sub_cancel_left]
    exact enc_get E l k x (by simpa using h) i u hu
theorem enc_at (E : Enc sz enc) : ∀ (l : List α) (j : Nat) (u : Value), (l.flatMap enc)[j]? = some u → ∃ k x i, j = k * sz + i ∧ l[k]? = some x ∧ (enc x)[i]? = some u
  | [], j, u, h => by simp at h
  | y :: l, j, u, h => by
    have hy := E.len y
    rw [List.flatMap_cons] at h
    by_cases hj : j < (enc y).length
    · rw [List.getElem?_append_left hj] at h
      exact ⟨0, y, j, by simp, rfl, h⟩
    · rw [List.getElem?_append_right (by omega)] at h
      obtain ⟨k, x, i, h1, h2, h3⟩ := enc_at E l _ u h
      exact ⟨k + 1, x, i, by rw [Nat.succ_mul]; omega, by simpa using h2, h3⟩
theorem enc_one (E : Enc sz enc) (l : List α) : ∀ u ∈ l.flatMap enc, u.oneCell' = true := fun u hu => by
  obtain ⟨x, -, h⟩ := List.mem_flatMap.1 hu
  exact E.one x u h

theorem en_add (b o j : Nat) : (⟨b, o, none⟩ : Addr).add j = ⟨b, o + j, none⟩ := by unfold Addr.add; split <;> simp_all
/-- A row, for whoever reads it. -/
structure Rd (sz : Nat) (enc : α → List Value) (w : World) (v : Value) (l : List α) : Prop where
  is : ∃ p c, v = .slice p l.length c ∧ l.length ≤ c ∧ c ≤ maxLen ∧ (c = 0 ∨ ∃ b o, p = some ⟨b, o, none⟩ ∧ ∀ (k : Nat) (x : α), l[k]? = some x → ∀ (i : Nat) (u : Value), (enc x)[i]? = some u → w.cell? ⟨b, o + k * sz + i, none⟩ = some u)
section
variable {w w' : World} {v : Value} {l : List α}
theorem Rd.below {B : Nat} (h : Rd sz enc w v l) (hb : Below B w w') (hB : w.heap.size ≤ B) : Rd sz enc w' v l := by
  obtain ⟨p, c, hv, h1, h2, h3⟩ := h.is
  refine ⟨p, c, hv, h1, h2, ?_⟩
  rcases h3 with h3 | ⟨b, o, hp, hc⟩
  · exact .inl h3
  · refine .inr ⟨b, o, hp, fun k x hk i u hu => ?_⟩
    have := hc k x hk i u hu
    have hlt := World.block_lt_of_cell? w _ this
    exact (World.cell?_of_block (hb.block b (Nat.lt_of_lt_of_le hlt hB))).trans this
theorem Rd.nil (sz : Nat) (enc : α → List Value) (w : World) : Rd sz enc w (.slice none 0 0) [] := ⟨none, 0, rfl, Nat.le_refl _, by decide, .inl rfl⟩
theorem Rd.few (h : Rd sz enc w v l) : l.length ≤ maxLen := by
  obtain ⟨p, c, hv, h1, h2, h3⟩ := h.is
  omega
theorem Rd.shape (h : Rd sz enc w v l) : ∃ p c, v = .slice p l.length c := by
  obtain ⟨p, c, hv, -⟩ := h.is
  exact ⟨p, c, hv⟩
/-- One of it. -/
theorem Rd.get {p : Option Addr} {n c : Nat} (h : Rd sz enc w (.slice p n c) l) {k : Nat} {x : α} (hk : l[k]? = some x) : ∃ b o, p = some ⟨b, o, none⟩ ∧ ∀ (k : Nat) (x : α), l[k]? = some x → ∀ (i : Nat) (u : Value), (enc x)[i]? = some u → w.cell? ⟨b, o + k * sz + i, none⟩ = some u := by
  obtain ⟨p', c', hv, h1, h2, h3⟩ := h.is
  simp only [Value.slice.injEq] at hv
  obtain ⟨rfl, rfl, rfl⟩ := hv
  rcases h3 with rfl | ⟨b, o, rfl, hc⟩
  · have := (List.getElem?_eq_some_iff.1 hk).1; omega
  · exact ⟨b, o, rfl, hc⟩
theorem Rd.of_own (E : Enc sz enc) {B e : Nat} (h : w.ownsRow B e sz v l.length (l.flatMap enc)) : Rd sz enc w v l := by
  rcases h.2 with ⟨rfl, h0⟩ | ⟨g, cap, cur, rfl, -, hg, h1, h2, -⟩
  · rw [List.eq_nil_of_length_eq_zero h0]; exact Rd.nil _ _ _
  · refine ⟨_, cap, rfl, h1, h2, .inr ⟨g, 0, rfl, fun k x hk i u hu => ?_⟩⟩
    have := World.ownsRow.cells h rfl _ u (enc_get E l k x hk i u hu)
    rw [en_add] at this
    rw [Nat.add_assoc]
    exact this
/-- What an append reads. -/
theorem Rd.src {P : Program} (E : Enc sz enc) (h : Rd sz enc w v l) {tx e' : TypeId} (hk : P.underlying tx = some (.slice e')) : Src P sz tx v l.length (l.flatMap enc) w := by
  obtain ⟨p, c, rfl, h1, h2, h3⟩ := h.is
  rcases h3 with rfl | ⟨b, o, rfl, hc⟩
  · rw [List.eq_nil_of_length_eq_zero (Nat.le_zero.1 h1)]
    cases p with
    | none => exact Src.ofNil w hk 0
    | some a => exact Src.ofSlice w hk a 0 0 [] (by simp) (fun j u hu => by simp at hu) (fun u hu => by simp at hu)
  · refine Src.ofSlice w hk _ _ c _ (enc_flat E l) (fun j u hu => ?_) (enc_one E l)
    obtain ⟨k, x, i, rfl, e2, e3⟩ := enc_at E l j u hu
    rw [en_add, ← Nat.add_assoc]
    exact hc k x e2 i u e3
theorem sliced_en {a : Option Addr} {l h m s : Nat} {b o : Nat} (ha : a = some ⟨b, o, none⟩) : sliced a l h m s = .slice (some (if m = l then ⟨b, o, none⟩ else ⟨b, o + l * s, none⟩)) (h - l) (m - l) := by
  subst ha
  unfold sliced
  split
  · rfl
  · simp [en_add]
theorem sliced_shape (p : Option Addr) (l h m s : Nat) : ∃ q, sliced p l h m s = .slice q (h - l) (m - l) := ⟨_, rfl⟩
/-- What is left from a place on. -/
theorem Rd.drop {p : Option Addr} {c : Nat} (h : Rd sz enc w (.slice p l.length c) l) (k : Nat) (hk : k ≤ l.length) : Rd sz enc w (sliced p k l.length c sz) (l.drop k) := by
  obtain ⟨p', c', hv, h1, h2, h3⟩ := h.is
  simp only [Value.slice.injEq, true_and] at hv
  obtain ⟨rfl, rfl⟩ := hv
  rcases h3 with rfl | ⟨b, o, rfl, hc⟩
  · obtain rfl : l = [] := List.eq_nil_of_length_eq_zero (by omega)
    simp only [List.length_nil, Nat.le_zero_eq] at hk
    subst hk
    exact ⟨p, 0, rfl, Nat.le_refl _, by decide, .inl rfl⟩
  · rw [sliced_en rfl]
    refine ⟨_, _, by rw [List.length_drop], by rw [List.length_drop]; omega, by omega, .inr ?_⟩
    by_cases hm : c = k
    · refine ⟨b, o, by rw [if_pos hm], fun j x hj => ?_⟩
      rw [List.getElem?_drop] at hj
      have := (List.getElem?_eq_some_iff.1 hj).1
      omega
    · refine ⟨b, o + k * sz, by rw [if_neg hm], fun j x hj i u hu => ?_⟩
      rw [List.getElem?_drop] at hj
      have := hc (k + j) x hj i u hu
      rwa [Nat.add_mul, ← Nat.add_assoc] at this
/-- What is ahead of a place. -/
theorem Rd.take {p : Option Addr} {c : Nat} (h : Rd sz enc w (.slice p l.length c) l) (k : Nat) (hk : k ≤ l.length) : Rd sz enc w (sliced p 0 k c sz) (l.take k) := by
  obtain ⟨p', c', hv, h1, h2, h3⟩ := h.is
  simp only [Value.slice.injEq, true_and] at hv
  obtain ⟨rfl, rfl⟩ := hv
  rcases h3 with rfl | ⟨b, o, rfl, hc⟩
  · obtain rfl : l = [] := List.eq_nil_of_length_eq_zero (by omega)
    simp only [List.length_nil, Nat.le_zero_eq] at hk
    subst hk
    exact ⟨p, 0, rfl, Nat.le_refl _, by decide, .inl rfl⟩
  · rw [sliced_en rfl]
    refine ⟨_, _, by rw [List.length_take, Nat.min_eq_left hk]; rfl, by rw [List.length_take]; omega, by omega, .inr ?_⟩
    refine ⟨b, o, by simp, fun j x hj => hc j x ?_⟩
    rw [List.getElem?_take] at hj
    split at hj
    · exact hj
    · cases hj
theorem Rd.room {p : Option Addr} {n c : Nat} (h : Rd sz enc w (.slice p n c) l) : n = l.length ∧ l.length ≤ c ∧ c ≤ maxLen := by
  obtain ⟨p', c', hv, h1, h2, -⟩ := h.is
  simp only [Value.slice.injEq] at hv
  obtain ⟨-, rfl, rfl⟩ := hv
  exact ⟨rfl, h1, h2⟩
end
/-- An append of what any slice yields, onto a row that the call owns. -/
theorem run_append_src {P : Program} (w : World) (t tx ty e : TypeId) (i : TypeInfo) (z : Value) (bytes : Nat) (ht : P.underlying t = some (.slice e)) (hi : P.info? e = some i) (hz : i.zero = some z) (hs : i.size = sz) (hb : i.bytes = bytes) (hzs : z.cells.size = sz) (E : Enc sz enc)
    (B : Nat) (v : Value) (l m : List α) (hown : w.ownsRow B e sz v l.length (l.flatMap enc)) (x : Value) (hx : Rd sz enc w x m) (htx : tx = t) (hlim : (l.length + m.length) * bytes ≤ 140737488355328) (hlen : l.length + m.length ≤ maxLen) (hB : B ≤ w.heap.size) :
    ∃ v' w', (Builtin.append_ #[t, tx] ty #[v, x]).run P w = .ok v' w' ∧ w'.ownsRow B e sz v' (l ++ m).length ((l ++ m).flatMap enc) ∧ w.grownBy w' v.ownBlock := by
  subst htx
  obtain ⟨p, c, rfl, h1, h2, h3⟩ := hx.is
  cases p with
  | none =>
    obtain rfl : c = 0 := by
      rcases h3 with h3 | ⟨b, o, h3, -⟩
      · exact h3
      · cases h3
    obtain rfl : m = [] := List.eq_nil_of_length_eq_zero (Nat.le_zero.1 h1)
    rw [List.append_nil]
    refine ⟨v, w, ?_, hown, ⟨rfl, rfl, rfl, Nat.le_refl _, fun _ _ _ => rfl⟩⟩
    have hsrc := Src.ofNil (P := P) (size := i.size) w ht 0
    rcases hown.2 with ⟨rfl, h0⟩ | ⟨g, cap, cur, rfl, -, hg, hlc, -, -⟩
    · have hcells := hsrc.cells
      have hlen := hsrc.len w
      simp [Builtin.append_, run_underlying ht, sizeOf, typeInfo, hi, hlen, hcells]
    · have := run_append_room_src (P := P) w tx tx ty e i ht hi g 0 l.length cap (.slice none 0 0) 0 [] hsrc (by omega) (fun j hj => by simp at hj) (fun j hj => by simp at hj)
      exact this
  | some ad =>
    have hl : (m.flatMap enc).length = m.length * sz := enc_flat E m
    have hcells : ∀ j u, (m.flatMap enc)[j]? = some u → w.cell? (ad.add j) = some u := fun j u hu => by
      obtain ⟨k, y, q, rfl, e2, e3⟩ := enc_at E m j u hu
      rcases h3 with rfl | ⟨b, o, h3, hc⟩
      · have := (List.getElem?_eq_some_iff.1 e2).1; omega
      · cases h3
        rw [en_add, ← Nat.add_assoc]
        exact hc k y e2 q u e3
    obtain ⟨v', w', hr, h4, h5, -⟩ := run_append_own (P := P) w B tx ty e i z sz bytes ht hi hz hs hb hzs E.pos v l.length (l.flatMap enc) hown ad m.length c (m.flatMap enc) hl hcells (enc_one E m) hlen hlim hB
    exact ⟨v', w', hr, by rw [List.length_append, List.flatMap_append]; exact h4, h5⟩
theorem wpList_append_rd {P : Program} (w : World) {ops : Array Oper} {rest : List Oper} {o : Oper} {a : Act} {Q : Exit → Act → World → Prop} (hgd : o.guard = none) (s x : Operand) (t : TypeId)
    (ho : o.op = .call { callee := .builtin .append, args := #[s, x], argTypes := #[t, t] })
    (e : TypeId) (i : TypeInfo) (z : Value) (bytes : Nat) (ht : P.underlying t = some (.slice e)) (hi : P.info? e = some i) (hz : i.zero = some z) (hs : i.size = sz) (hb : i.bytes = bytes) (hzs : z.cells.size = sz) (E : Enc sz enc)
    (B : Nat) (v : Value) (l m : List α) (hsv : a.eval s = v) (hown : w.ownsRow B e sz v l.length (l.flatMap enc)) (xv : Value) (hxv : a.eval x = xv) (hx : Rd sz enc w xv m) (hlim : (l.length + m.length) * bytes ≤ 140737488355328) (hlen : l.length + m.length ≤ maxLen) (hB : B ≤ w.heap.size) (J : List α) (hJ : l ++ m = J)
    (h : ∀ v' w', w'.ownsRow B e sz v' J.length (J.flatMap enc) → w.grownBy w' v.ownBlock → wpList P ops Q rest (a.put o.dst v') w') : wpList P ops Q (o :: rest) a w := by
  subst hJ
  refine wpList_plain hgd fun K hK => ?_
  obtain ⟨v', w', hr, h2, h3⟩ := run_append_src (P := P) w t t o.type e i z bytes ht hi hz hs hb hzs E B v l m hown xv hx rfl hlim hlen hB
  unfold Oper.wp execOp
  simp only [ho, resolve, invoke, builtin, Sem.run_bind, Sem.run_pure, Result.andThen_ok, List.map_toArray, List.map_cons, List.map_nil, hsv, hxv, hr]
  exact hK _ _ (h v' w' h2 h3)
end
theorem below_drewN {B : Nat} {a w : World} (h : Below B a w) (n : Nat) : Below B a (w.drewN n) := h.trans ⟨rfl, rfl, rfl, Nat.le_refl _, fun _ _ => rfl⟩
theorem grown_below {w w' : World} (h : Below w.heap.size w w') : w.grownBy w' none := ⟨h.os, h.tape, h.output, h.size, fun k hk _ => h.block k hk⟩
theorem own_below {w w' : World} {B e size n : Nat} {v : Value} {xs : List Value} (h : w.ownsRow B e size v n xs) (hb : Below w.heap.size w w') : w'.ownsRow B e size v n xs := by
  refine World.ownsRow.kept h (grown_below hb) ?_
  cases hv : v.ownBlock with
  | none => exact .inl rfl
  | some k => exact .inr (by simp)
end Go.Proofs.YtfepkhlifpbkfaaDoor
