/-
  Proved: laws on rows of bytes that a call owns or only reads, over whatever program; appending to them; a Reader's block. Conditions: lengths of at most 2^47.
-/
import Derived.Deep.AppendSrc
import Derived.Lib.ItoaMem
import Derived.Below
import Derived.OwnWalk
import Derived.Lib.UnsafeStr
import Derived.Lib.ConvBytes
import Derived.Laws.AppendOwn
import Derived.Laws.IdiomCopy
import Derived.Laws.BytesArg
namespace Go.Proofs.YtilplpjdbkipoaaGreatDoor.NetMem
open Go Go.RowKit

/-- A slice of bytes that the call owns: its row begins its block, lies from block B on, and can be written up to its capacity. -/
def Own (w : World) (B : Nat) (v : Value) (l : List UInt8) : Prop :=
  (v = .slice none 0 0 ∧ l = []) ∨
  ∃ g cap, v = .slice (some ⟨g, 0, none⟩) l.length cap ∧ B ≤ g ∧ g < w.heap.size ∧ l.length ≤ cap ∧ cap ≤ maxLen ∧
    (∀ j, j < cap → (w.cell? ⟨g, j, none⟩).isSome = true ∧ w.frozen? ⟨g, j, none⟩ = false) ∧
    (∀ j (h : j < l.length), w.cell? ⟨g, j, none⟩ = some (.int .u8 (l[j].toNat : Int)))

/-- A slice of bytes that can be read. -/
def Row (w : World) (v : Value) (l : List UInt8) : Prop :=
  ∃ p cap, v = .slice p l.length cap ∧ l.length ≤ cap ∧ cap ≤ maxLen ∧
    (0 < cap → ∃ b o, p = some ⟨b, o, none⟩ ∧ ∀ i (h : i < l.length), w.cell? ⟨b, o + i, none⟩ = some (.int .u8 (l[i].toNat : Int)))

theorem bc_at (l : List UInt8) (j : Nat) (h : j < l.length) : (Lib.byteCells l)[j]? = some (.int .u8 (l[j].toNat : Int)) := by
  simp [Lib.byteCells, h]

theorem Own.nil (w : World) (B : Nat) : Own w B (.slice none 0 0) [] := .inl ⟨rfl, rfl⟩

theorem Own.row {w : World} {B : Nat} {v : Value} {l : List UInt8} (h : Own w B v l) : Row w v l := by
  rcases h with ⟨rfl, rfl⟩ | ⟨g, cap, rfl, _, _, hlc, hcm, _, hc⟩
  · exact ⟨none, 0, rfl, Nat.le_refl _, by simp [maxLen], fun h => absurd h (Nat.lt_irrefl 0)⟩
  · exact ⟨some ⟨g, 0, none⟩, cap, rfl, hlc, hcm, fun _ => ⟨g, 0, rfl, fun i hi => by rw [Nat.zero_add]; exact hc i hi⟩⟩

theorem Own.lt {w : World} {B : Nat} {v : Value} {l : List UInt8} (h : Own w B v l) : ∀ k, v.ownBlock = some k → B ≤ k ∧ k < w.heap.size := by
  intro k hk
  rcases h with ⟨rfl, _⟩ | ⟨g, cap, rfl, hB, hg, _⟩
  · simp [Value.ownBlock] at hk
  · simp [Value.ownBlock] at hk
    subst hk
    exact ⟨hB, hg⟩

theorem Own.mono {w : World} {B B' : Nat} {v : Value} {l : List UInt8} (h : Own w B v l) (hb : B' ≤ B) : Own w B' v l := by
  rcases h with h | ⟨g, cap, hv, hB, r⟩
  · exact .inl h
  · exact .inr ⟨g, cap, hv, Nat.le_trans hb hB, r⟩

/-- It stays while its block does. -/
theorem Own.keep {w w' : World} {B : Nat} {v : Value} {l : List UInt8} (h : Own w B v l) (hs : w.heap.size ≤ w'.heap.size) (hk : ∀ k, v.ownBlock = some k → w'.heap[k]? = w.heap[k]?) : Own w' B v l := by
  rcases h with h | ⟨g, cap, rfl, hB, hg, hlc, hcm, hf, hc⟩
  · exact .inl h
  · have hb := hk g rfl
    have e1 : ∀ j, w'.cell? ⟨g, j, none⟩ = w.cell? ⟨g, j, none⟩ := fun j => World.cell?_of_block (a := ⟨g, j, none⟩) hb
    have e2 : ∀ j, w'.frozen? ⟨g, j, none⟩ = w.frozen? ⟨g, j, none⟩ := fun j => World.frozen?_of_block (a := ⟨g, j, none⟩) hb
    exact .inr ⟨g, cap, rfl, hB, by omega, hlc, hcm, fun j hj => by rw [e1, e2]; exact hf j hj, fun j hj => by rw [e1]; exact hc j hj⟩

theorem Own.below {w w' : World} {B : Nat} {v : Value} {l : List UInt8} (h : Own w B v l) (hb : Below w.heap.size w w') : Own w' B v l :=
  h.keep hb.size fun k hk => hb.block k (h.lt k hk).2

theorem Row.keep {w w' : World} {v : Value} {l : List UInt8} (h : Row w v l) (hk : ∀ b o c, w.cell? ⟨b, o, none⟩ = some (.int .u8 c) → w'.cell? ⟨b, o, none⟩ = some (.int .u8 c)) : Row w' v l := by
  obtain ⟨p, cap, rfl, hlc, hcm, hc⟩ := h
  refine ⟨p, cap, rfl, hlc, hcm, fun h0 => ?_⟩
  obtain ⟨b, o, hp, hcc⟩ := hc h0
  exact ⟨b, o, hp, fun i hi => hk _ _ _ (hcc i hi)⟩

theorem lt_of_cell {w : World} {a : Addr} {v : Value} (h : w.cell? a = some v) : a.block < w.heap.size := World.block_lt_of_cell? w a h

theorem Row.below {w w' : World} {v : Value} {l : List UInt8} (h : Row w v l) (hb : Below w.heap.size w w') : Row w' v l :=
  h.keep fun b o c hc => by rw [hb.cell (p := ⟨b, o, none⟩) (lt_of_cell hc)]; exact hc

theorem Row.length_le {w : World} {v : Value} {l : List UInt8} (h : Row w v l) : l.length ≤ maxLen := by
  obtain ⟨p, cap, rfl, hlc, hcm, _⟩ := h
  omega

/-! ### append -/

theorem setCells_same (b : Nat) : ∀ (vs : List Value) (o : Nat) (w : World), (w.setCells b o vs).os = w.os ∧ (w.setCells b o vs).tape = w.tape ∧ (w.setCells b o vs).output = w.output ∧ (w.setCells b o vs).heap.size = w.heap.size ∧
    ∀ k, k ≠ b → (w.setCells b o vs).heap[k]? = w.heap[k]?
  | [], o, w => ⟨rfl, rfl, rfl, rfl, fun _ _ => rfl⟩
  | v :: r, o, w => by
    obtain ⟨h1, h2, h3, h4, h5⟩ := setCells_same b r (o + 1) (w.setCell ⟨b, o, none⟩ v)
    refine ⟨h1, h2, h3, ?_, fun k hk => ?_⟩
    · rw [World.setCells, h4]; simp [World.setCell]
    · rw [World.setCells, h5 k hk]; exact Below.heap_setCell _ _ _ _ hk

theorem setCells_grown (w : World) (b o : Nat) (vs : List Value) : w.grownBy (w.setCells b o vs) (some b) := by
  obtain ⟨h1, h2, h3, h4, h5⟩ := setCells_same b vs o w
  exact ⟨h1, h2, h3, by omega, fun k _ hk => h5 k (fun e => hk (by rw [e]))⟩

theorem new_cell (w : World) (cs : Array Value) (e : TypeId) (j : Nat) : (w.alloc (.cells cs e)).cell? ⟨w.heap.size, j, none⟩ = cs[j]? := World.cell?_alloc_mark w cs e (0, 0) j
theorem new_free (w : World) (cs : Array Value) (e : TypeId) (j : Nat) : (w.alloc (.cells cs e)).frozen? ⟨w.heap.size, j, none⟩ = false := by
  rw [World.frozen?_alloc_mark w cs e 0 0 j]; simp

theorem byteCells_len (l : List UInt8) : (Lib.byteCells l).length = l.length := by simp [Lib.byteCells]

/-- A new array that begins with l. -/
theorem Own.made (w : World) (e : TypeId) (l : List UInt8) (cap : Nat) (hc : l.length ≤ cap) (hm : cap ≤ maxLen) (cs : Array Value) (hs : cs.size = cap) (ht : ∀ j (h : j < l.length), cs[j]? = some (.int .u8 (l[j].toNat : Int))) (B : Nat) (hB : B ≤ w.heap.size) :
    Own (w.alloc (.cells cs e)) B (.slice (some ⟨w.heap.size, 0, none⟩) l.length cap) l := by
  refine .inr ⟨w.heap.size, cap, rfl, hB, by simp, hc, hm, fun j hj => ⟨?_, new_free _ _ _ _⟩, fun j hj => ?_⟩
  · rw [new_cell]
    have : j < cs.size := by omega
    simp [this]
  · rw [new_cell]; exact ht j hj

section
variable {P : Program} (w : World)

/-- APPENDING BYTES TO WHAT THE CALL OWNS. -/
theorem run_append_bytes (t tx ty e : TypeId) (i : TypeInfo) (ht : P.underlying t = some (.slice e)) (hi : P.info? e = some i) (hz : i.zero = some (.int .u8 0)) (h1 : i.size = 1) (hb : i.bytes = 1)
    (B : Nat) (v : Value) (l : List UInt8) (hown : Own w B v l) (x : Value) (m : List UInt8) (hs : Src P 1 tx x m.length (Lib.byteCells m) w) (hlim : l.length + m.length ≤ 140737488355328) (hB : B ≤ w.heap.size) :
    ∃ v' w', (Builtin.append_ #[t, tx] ty #[v, x]).run P w = .ok v' w' ∧ Own w' B v' (l ++ m) ∧ w.grownBy w' v.ownBlock ∧ (v' = .slice none 0 0 ↔ v = .slice none 0 0 ∧ m = []) := by
  have grow : ∀ (old : Nat), old < l.length + m.length →
      Own (w.drew.alloc (.cells ((Lib.byteCells l ++ Lib.byteCells m).toArray ++ Builtin.zeroCells (Value.int .u8 0).cells (grownCap w (l.length + m.length) old e - (l.length + m.length))) e)) B
        (.slice (some ⟨w.heap.size, 0, none⟩) (l.length + m.length) (grownCap w (l.length + m.length) old e)) (l ++ m) := by
    intro old ho
    have hge := grownCap_ge w (l.length + m.length) old e
    have hcm : grownCap w (l.length + m.length) old e ≤ maxLen := grownCap_le_maxLen w (l.length + m.length) old e (by unfold maxLen; omega)
    have hz1 : (Value.int IntKind.u8 0).cells.size = 1 := rfl
    have := Own.made w.drew e (l ++ m) (grownCap w (l.length + m.length) old e) (by simp; omega) hcm
      ((Lib.byteCells l ++ Lib.byteCells m).toArray ++ Builtin.zeroCells (Value.int .u8 0).cells (grownCap w (l.length + m.length) old e - (l.length + m.length)))
      (by simp only [Array.size_append, List.size_toArray, size_zeroCells, hz1, List.length_append, byteCells_len]; omega)
      (fun j hj => by
        have hj' : j < (Lib.byteCells l ++ Lib.byteCells m).toArray.size := by simp [byteCells_len]; simpa using hj
        rw [Array.getElem?_append_left hj']
        have := bc_at (l ++ m) j hj
        simp only [List.getElem?_toArray]
        rw [← this]; congr 1; simp [Lib.byteCells]) B (by simpa using hB)
    rw [List.length_append] at this
    exact this
  rcases hown with ⟨rfl, rfl⟩ | ⟨g, cap, rfl, hBg, hg, hlc, hcm, hf, hc⟩
  · by_cases hm : m = []
    · subst hm
      refine ⟨.slice none 0 0, w, ?_, .inl ⟨rfl, rfl⟩, ⟨rfl, rfl, rfl, Nat.le_refl _, fun _ _ _ => rfl⟩, by simp⟩
      have hcells := hs.cells
      have hlen := hs.len w
      simp only [List.length_nil, Lib.byteCells, List.map_nil] at hcells hlen
      rcases hs.kind with ⟨e', hk⟩ | hk <;>
        simp [Builtin.append_, run_underlying ht, run_underlying hk, sizeOf, typeInfo, hi, h1, hlen, hcells]
    · have hpos : 0 < m.length := List.length_pos_iff.2 hm
      have hr := run_append_grow_src (P := P) w t tx ty e i (.int .u8 0) ht hi hz none 0 0 [] (run_firstCells_none w.drew i.size 0 0 0) x m.length (Lib.byteCells m) (by rw [h1]; exact hs) (by omega) (by omega) (by rw [hb]; exact growslice_fits (by omega) (by simp at hlim; omega))
      have hgr := grow 0 (by omega)
      simp only [Nat.zero_add, List.length_nil, Lib.byteCells, List.map_nil, List.nil_append] at hr hgr ⊢
      exact ⟨_, _, hr, hgr, ⟨rfl, rfl, rfl, by simp, fun k hk _ => Below.heap_alloc w.drew _ k hk⟩, by simp [hm]⟩
  · by_cases hroom : l.length + m.length ≤ cap
    · have hr := run_append_room_src (P := P) w t tx ty e i ht hi g 0 l.length cap x m.length (Lib.byteCells m) (by rw [h1]; exact hs) hroom
        (fun j hj => by rw [byteCells_len] at hj; rw [h1, Nat.mul_one, Nat.zero_add]; exact (hf _ (by omega)).1)
        (fun j hj => by rw [byteCells_len] at hj; rw [h1, Nat.mul_one, Nat.zero_add]; exact (hf _ (by omega)).2)
      rw [h1, Nat.mul_one, Nat.zero_add] at hr
      have hgr := setCells_grown w g l.length (Lib.byteCells m)
      have hin := World.cell?_setCells_in g (Lib.byteCells m) l.length w (fun j hj => by rw [byteCells_len] at hj; exact (hf _ (by omega)).1)
      have hout : ∀ j, j < l.length → (w.setCells g l.length (Lib.byteCells m)).cell? ⟨g, j, none⟩ = w.cell? ⟨g, j, none⟩ := fun j hj =>
        World.cell?_setCells_out g (Lib.byteCells m) l.length w ⟨g, j, none⟩ (fun _ _ => .inl hj)
      have hfar : ∀ j, l.length + m.length ≤ j → (w.setCells g l.length (Lib.byteCells m)).cell? ⟨g, j, none⟩ = w.cell? ⟨g, j, none⟩ := fun j hj =>
        World.cell?_setCells_out g (Lib.byteCells m) l.length w ⟨g, j, none⟩ (fun _ _ => .inr (by rw [byteCells_len]; exact hj))
      refine ⟨_, _, hr, .inr ⟨g, cap, by rw [List.length_append], hBg, by have := hgr.size; omega, by rw [List.length_append]; exact hroom, hcm, fun j hj => ⟨?_, ?_⟩, fun j hj => ?_⟩, hgr, by simp⟩
      · rcases Nat.lt_or_ge j l.length with h | h
        · rw [hout j h]; exact (hf j hj).1
        · rcases Nat.lt_or_ge j (l.length + m.length) with h' | h'
          · have := hin (j - l.length) (by rw [byteCells_len]; omega)
            rw [show l.length + (j - l.length) = j by omega] at this
            rw [this]; rfl
          · rw [hfar j h']; exact (hf j hj).1
      · rw [World.frozen?_setCells]; exact (hf j hj).2
      · rw [List.length_append] at hj
        rcases Nat.lt_or_ge j l.length with h | h
        · rw [hout j h, List.getElem_append_left h]; exact hc j h
        · have := hin (j - l.length) (by rw [byteCells_len]; omega)
          rw [show l.length + (j - l.length) = j by omega] at this
          rw [this, List.getElem_append_right h]
          simp [Lib.byteCells]
    · have hold : (Builtin.firstCells i.size l.length (.slice (some ⟨g, 0, none⟩) l.length cap)).run P w.drew = .ok (Lib.byteCells l).toArray w.drew :=
        run_firstCells_some (P := P) w.drew i.size l.length ⟨g, 0, none⟩ l.length cap (Lib.byteCells l) (by rw [byteCells_len, h1, Nat.mul_one]) (fun j u hu => by
          have hj : j < l.length := by have := (List.getElem?_eq_some_iff.1 hu).1; rwa [byteCells_len] at this
          rw [bc_at l j hj] at hu
          cases hu
          rw [Lib.add_plain, Nat.zero_add]
          exact hc j hj)
      have hr := run_append_grow_src (P := P) w t tx ty e i (.int .u8 0) ht hi hz (some ⟨g, 0, none⟩) l.length cap (Lib.byteCells l) hold x m.length (Lib.byteCells m) (by rw [h1]; exact hs) (by omega) (by omega) (by rw [hb]; exact growslice_fits (by omega) (by omega))
      exact ⟨_, _, hr, grow cap (by omega), ⟨rfl, rfl, rfl, by simp, fun k hk _ => Below.heap_alloc w.drew _ k hk⟩, by simp⟩

/-- The operation, for the walk. -/
theorem wpList_append_bytes {ops : Array Oper} {rest : List Oper} {o : Oper} {a : Act} {Q : Exit → Act → World → Prop} (hgd : o.guard = none) (s x : Operand) (t tx : TypeId)
    (ho : o.op = .call { callee := .builtin .append, args := #[s, x], argTypes := #[t, tx] })
    (e : TypeId) (i : TypeInfo) (ht : P.underlying t = some (.slice e)) (hi : P.info? e = some i) (hz : i.zero = some (.int .u8 0)) (h1 : i.size = 1) (hb : i.bytes = 1)
    (B : Nat) (v : Value) (l : List UInt8) (hsv : a.eval s = v) (hown : Own w B v l) (xv : Value) (m : List UInt8) (hxv : a.eval x = xv) (hs : Src P 1 tx xv m.length (Lib.byteCells m) w) (hlim : l.length + m.length ≤ 140737488355328) (hB : B ≤ w.heap.size)
    (h : ∀ v' w', Own w' B v' (l ++ m) → w.grownBy w' v.ownBlock → (v' = .slice none 0 0 ↔ v = .slice none 0 0 ∧ m = []) → wpList P ops Q rest (a.put o.dst v') w') : wpList P ops Q (o :: rest) a w := by
  refine wpList_plain hgd fun K hK => ?_
  obtain ⟨v', w', hr, h2, h3, h4⟩ := run_append_bytes (P := P) w t tx o.type e i ht hi hz h1 hb B v l hown xv m hs hlim hB
  unfold Oper.wp execOp
  simp only [ho, resolve, invoke, builtin, Sem.run_bind, Sem.run_pure, Result.andThen_ok, List.map_toArray, List.map_cons, List.map_nil, hsv, hxv, hr]
  exact hK _ _ (h v' w' h2 h3 h4)

/-- What an append reads: a slice that can be read. -/
theorem Row.src {w : World} {v : Value} {l : List UInt8} (h : Row w v l) {tx e' : TypeId} (hk : P.underlying tx = some (.slice e')) : Src P 1 tx v l.length (Lib.byteCells l) w := by
  obtain ⟨p, cap, rfl, hlc, hcm, hc⟩ := h
  rcases Nat.eq_zero_or_pos cap with h0 | h0
  · have hl : l = [] := List.eq_nil_of_length_eq_zero (by omega)
    subst hl
    cases p with
    | none => exact Src.ofNil w hk cap
    | some a => exact Src.ofSlice w hk a 0 cap [] rfl (fun j u hu => by simp at hu) (fun u hu => by simp at hu)
  · obtain ⟨b, o, rfl, hcc⟩ := hc h0
    refine Src.ofSlice w hk _ _ cap _ (by rw [byteCells_len, Nat.mul_one]) (fun j u hu => ?_) (fun u hu => ?_)
    · have hj : j < l.length := by have := (List.getElem?_eq_some_iff.1 hu).1; rwa [byteCells_len] at this
      rw [bc_at l j hj] at hu
      cases hu
      rw [Lib.add_plain]
      exact hcc j hj
    · simp only [Lib.byteCells, List.mem_map] at hu
      obtain ⟨b, _, rfl⟩ := hu
      rfl

theorem src_string {tx : TypeId} (hk : P.underlying tx = some .string) (s : ByteArray) : Src P 1 tx (.string s) s.data.toList.length (Lib.byteCells s.data.toList) w := by
  have := Src.ofString (P := P) w hk s
  have e : s.size = s.data.toList.length := by rw [Array.length_toList]; rfl
  rw [e] at this
  exact this
end

theorem Row.nums {w : World} {p : Option Addr} {n cap : Nat} {l : List UInt8} (h : Row w (.slice p n cap) l) :
    n = l.length ∧ l.length ≤ cap ∧ cap ≤ maxLen ∧ (0 < cap → ∃ b o, p = some ⟨b, o, none⟩ ∧ ∀ i (h : i < l.length), w.cell? ⟨b, o + i, none⟩ = some (.int .u8 (l[i].toNat : Int))) := by
  obtain ⟨p', cap', hv, h1, h2, h3⟩ := h
  simp only [Value.slice.injEq] at hv
  obtain ⟨rfl, rfl, rfl⟩ := hv
  exact ⟨rfl, h1, h2, h3⟩

/-- A byte written into what the call owns. -/
theorem Own.store {w : World} {B g n cap : Nat} {l : List UInt8} (h : Own w B (.slice (some ⟨g, 0, none⟩) n cap) l) (k : Nat) (hk : k < l.length) (d : UInt8) :
    Own (w.setCell ⟨g, k, none⟩ (.int .u8 (d.toNat : Int))) B (.slice (some ⟨g, 0, none⟩) n cap) (l.set k d) := by
  rcases h with ⟨h1, -⟩ | ⟨g', cap', hv, hB, hg, hlc, hcm, hf, hc⟩
  · simp at h1
  · simp only [Value.slice.injEq, Option.some.injEq, Addr.mk.injEq] at hv
    obtain ⟨⟨rfl, -, -⟩, rfl, rfl⟩ := hv
    refine .inr ⟨g, cap, by rw [List.length_set], hB, by simpa [World.setCell] using hg, by rw [List.length_set]; exact hlc, hcm, fun j hj => ⟨?_, ?_⟩, fun j hj => ?_⟩
    · by_cases e : j = k
      · subst e
        rw [World.cell?_setCell_same (h := hc j hk)]; rfl
      · rw [World.cell?_setCell_other (h := fun h => e (by cases h; rfl))]; exact (hf j hj).1
    · rw [World.frozen?_setCell]; exact (hf j hj).2
    · by_cases e : j = k
      · subst e
        rw [World.cell?_setCell_same (h := hc j hk)]; simp
      · rw [List.length_set] at hj
        rw [World.cell?_setCell_other (h := fun h => e (by cases h; rfl)), hc j hj]
        rw [List.getElem_set_ne (fun h => e h.symm)]

/-- A row that is read by ranges. -/
theorem Row.range {w : World} {b o n cap : Nat} {l : List UInt8} (h : Row w (.slice (some ⟨b, o, none⟩) n cap) l) (h0 : 0 < cap) : ∀ i (h : i < l.length), w.cell? ⟨b, o + i, none⟩ = some (.int .u8 (l[i].toNat : Int)) := by
  obtain ⟨_, _, _, hc⟩ := Row.nums h
  obtain ⟨b', o', hp, hcc⟩ := hc h0
  simp only [Option.some.injEq, Addr.mk.injEq] at hp
  obtain ⟨rfl, rfl, -⟩ := hp
  exact hcc
end Go.Proofs.YtilplpjdbkipoaaGreatDoor.NetMem
