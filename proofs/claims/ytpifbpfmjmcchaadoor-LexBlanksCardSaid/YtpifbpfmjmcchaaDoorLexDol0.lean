/-
  Proved: of dollar: how a part that was taken is put behind a row; a dollar alone. Conditions: the reader and the row lie in memory.
-/
import Derived.Test.YtpifbpfmjmcchaaDoorLexBra
namespace Go.Proofs.YtpifbpfmjmcchaaDoor
open Go Go.RowKit GlyphMath LexMath

/-- A part's variable that holds a part. -/
def PB (p : Pt) (T O : ByteArray) (u : Value) : Obj := .cells #[.int .i64 p.kind, .string T, .string O, u, .bool p.q] 25
def partEnd (ps : List Pt) (q : Bool) (m : Res Pt) : Res (List Pt) :=
  match m with
  | .error e => .error e
  | .ok (p, r) => .ok (ps ++ [{ p with q := q }], r)
theorem dollar_brace {br : List Nat → Res Pt} {q : Bool} {xs r : List Nat} {ps : List Pt} (h : takes [123] xs.tail = some r) : dollarM br q xs ps = partEnd ps q (br r) := by
  unfold dollarM partEnd
  rw [h]
  simp only
  cases br r with
  | error e => rfl
  | ok a => rfl
def arithEnd (m : Res (List Nat)) : Res Pt := match m with | .error c => .error c | .ok (l, r) => .ok (⟨3, enc l, [], [], false⟩, r)
theorem dollar_arith {br : List Nat → Res Pt} {q : Bool} {xs r : List Nat} {ps : List Pt} (h : takes [123] xs.tail = none) (h2 : takes [40, 40] xs.tail = some r) : dollarM br q xs ps = partEnd ps q (arithEnd (arithM r 0 [])) := by
  unfold dollarM partEnd arithEnd
  rw [h]
  simp only
  rw [h2]
  simp only
  cases arithM r 0 [] with
  | error e => rfl
  | ok a => rfl
def nameEnd (m : Res (List Nat)) : Res Pt := match m with | .error c => .error c | .ok (l, r) => .ok (⟨2, enc l, [], [], false⟩, r)
theorem dollar_name {br : List Nat → Res Pt} {q : Bool} {xs : List Nat} {ps : List Pt} (h : takes [123] xs.tail = none) (h2 : takes [40, 40] xs.tail = none) (h3 : (firstR (next xs.tail : Int) || other (next xs.tail)) = true) : dollarM br q xs ps = partEnd ps q (nameEnd (parameterM xs.tail)) := by
  unfold dollarM partEnd nameEnd
  rw [h]
  simp only
  rw [h2]
  simp only
  rw [if_pos h3]
  cases parameterM xs.tail with
  | error e => rfl
  | ok a => rfl
theorem dollar_lit {br : List Nat → Res Pt} {q : Bool} {xs : List Nat} {ps : List Pt} (h : takes [123] xs.tail = none) (h2 : takes [40, 40] xs.tail = none) (h3 : (firstR (next xs.tail : Int) || other (next xs.tail)) = false) : dollarM br q xs ps = .ok (lit ps [36] true, xs.tail) := by
  unfold dollarM
  rw [h]
  simp only
  rw [h2]
  simp only
  rw [if_neg (by rw [h3]; decide)]

/-- Ahead of the row's append: the row, the variable, what the part has. -/
structure Ahead (w0 w9 : World) (X G sz B W V : Nat) (ps : List Pt) (p : Pt) (T O : ByteArray) (q : Bool) (u : Value) (r : List Nat) (v : Value) (vs : List Value) (F : Nat → Prop) : Prop where
  row : RowO w9 B W v vs F ps
  rd : Rd w9 X G sz r
  var : w9.heap[V]? = some (PB { p with q := q } T O u)
  txtT : txt p.text = .string T
  txtO : txt p.op = .string O
  word : WordN w9 (V + 1) u p.word
  low : W < V ∧ ∀ g, v.ownBlock = some g → g < V
  hX : X < B ∧ G < B
  kept : Kept (fun k => k = X ∨ B ≤ k) w0 w9
theorem ahead_of {w0 w1 w9 : World} {X G sz B W : Nat} {ps : List Pt} {p : Pt} {T O : ByteArray} {q : Bool} {u : Value} {r : List Nat} {v : Value} {vs : List Value} {F : Nat → Prop} (ho : RowO w1 B W v vs F ps) (hX : X < B) (hG : G < B)
    (k0 : Kept (fun k => k = X ∨ B ≤ k) w0 w1) (k9 : Kept (fun k => k = X ∨ w1.heap.size ≤ k) w1 w9) (hr : Rd w9 X G sz r) (hw : WordN w9 (w1.heap.size + 1) u p.word) (hv : w9.heap[w1.heap.size]? = some (PB { p with q := q } T O u)) (hT : txt p.text = .string T) (hO : txt p.op = .string O) :
    Ahead w0 w9 X G sz B W w1.heap.size ps p T O q u r v vs F :=
  ⟨ho.kept k9 (fun k hk hk2 e => e.elim (fun e => by omega) fun e => by omega), hr, hv, hT, hO, hw, ⟨ho.lt, fun g hg => (World.ownsRow.lt ho.own g hg).2⟩, ⟨hX, hG⟩,
    k0.trans k9 fun i hi => .inl (hi.elim .inl fun e => .inr (by have := ho.base; have := ho.lt; omega))⟩
theorem Ahead.sub {w0 w9 : World} {X G sz B W V : Nat} {ps : List Pt} {p : Pt} {T O : ByteArray} {q : Bool} {u : Value} {r : List Nat} {v : Value} {vs : List Value} {F : Nat → Prop} (h : Ahead w0 w9 X G sz B W V ps p T O q u r v vs F) :
    ∃ F', WordV w9 F' u p.word ∧ ∀ g, F' g → B ≤ g ∧ g < w9.heap.size ∧ g ≠ W ∧ v.ownBlock ≠ some g := by
  obtain ⟨F', h1, h2⟩ := h.word
  have hb := h.row.base
  exact ⟨F', h1, fun g hg => ⟨by have := (h2 g hg).1; have := h.low.1; omega, (h2 g hg).2, fun e => by have := (h2 g hg).1; have := h.low.1; omega, fun e => by have := h.low.2 g e; have := (h2 g hg).1; omega⟩⟩
theorem Ahead.done {w0 w9 w2 : World} {X G sz B W V : Nat} {ps qs : List Pt} {p : Pt} {T O : ByteArray} {q : Bool} {u : Value} {r : List Nat} {v : Value} {vs : List Value} {F : Nat → Prop} (h : Ahead w0 w9 X G sz B W V ps p T O q u r v vs F)
    (hr : RowAt w2 B W qs ∧ Kept (fun k => B ≤ k) w9 w2) : Rd w2 X G sz r ∧ RowAt w2 B W qs ∧ Kept (fun k => k = X ∨ B ≤ k) w0 w2 :=
  ⟨h.rd.kept hr.2 (by have := h.hX.1; omega) (by have := h.hX.2; omega), hr.1, h.kept.on hr.2.wideB⟩
theorem parEnd_part {w w' : World} {e : Ending} {X G sz : Nat} {m : Res (List Nat)} (h : ParEnd w w' e X G sz m) : PartEnd w w' e X G sz (nameEnd m) := by
  cases m with
  | error c =>
    obtain ⟨h1, h2, h3⟩ := h
    subst h1
    exact ⟨.inl rfl, ⟨_, h2⟩, h3⟩
  | ok a =>
    obtain ⟨l, r⟩ := a
    obtain ⟨h1, h2, _⟩ := h
    exact ⟨zeroV, h1, WordN.nil _ _, h2.1, h2.2⟩
theorem arithT {w : World} {X G sz : Nat} {xs : List Nat} (h : Rd w X G sz xs) :
    Calls Tryd.prog 71 #[.pointer (some ⟨X, 0, none⟩)] w fun e w' => PartEnd w w' e X G sz (arithEnd (arithM xs 0 [])) := arith_any h
end Go.Proofs.YtpifbpfmjmcchaaDoor
