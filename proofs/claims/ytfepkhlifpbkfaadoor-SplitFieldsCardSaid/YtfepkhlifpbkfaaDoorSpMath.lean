/-
  Proved: plain facts on runs and their fields. Conditions: as each says.
-/
import Derived.Test.YtfepkhlifpbkfaaDoorGlyphMath
import Derived.Test.YtfepkhlifpbkfaaDoorGlMath
namespace Go.Proofs.YtfepkhlifpbkfaaDoor.SpMath
open GlyphMath GlMath

/-- A run. -/
structure Rn where
  text : ByteArray
  q : Bool
  s : Bool
  b : Bool
/-- Fields that have ended, the letters of the last one, whether one was begun. -/
structure Fld where
  ended : List (List Ch)
  last : List Ch
  begun : Bool
def Fld.fin (f : Fld) : Fld := if f.begun then ⟨f.ended ++ [f.last], [], false⟩ else f
def Fld.put (q s : Bool) (f : Fld) (r : Nat) : Fld := if s && !q && blankR (r : Int) then f.fin else ⟨f.ended, f.last ++ [((r : Int), q)], true⟩
def Fld.opens (q : Bool) (f : Fld) : Fld := ⟨f.ended, f.last, f.begun || q⟩
def Fld.puts (q s : Bool) (f : Fld) (l : List Nat) : Fld := l.foldl (Fld.put q s) f
def Fld.add (f : Fld) (x : Rn) : Fld := if x.b then f.fin else (f.opens x.q).puts x.q x.s (letters x.text)
def fd0 : Fld := ⟨[], [], false⟩
def fieldsF (l : List Rn) : Fld := l.foldl Fld.add fd0
def fieldsM (l : List Rn) : List (List Ch) := (fieldsF l).fin.ended
def Fld.sz (f : Fld) : Nat := f.ended.length + f.last.length
theorem fin_sz (f : Fld) : f.fin.sz ≤ f.sz + 1 := by
  unfold Fld.fin Fld.sz
  split
  · simp
  · omega
theorem put_sz (q s : Bool) (f : Fld) (r : Nat) : (f.put q s r).sz ≤ f.sz + 1 := by
  unfold Fld.put
  split
  · exact fin_sz f
  · simp [Fld.sz]; omega
theorem puts_sz (q s : Bool) : ∀ (l : List Nat) (f : Fld), (f.puts q s l).sz ≤ f.sz + l.length
  | [], _ => by simp [Fld.puts]
  | r :: l, f => by
    have h1 := puts_sz q s l (f.put q s r)
    have h2 := put_sz q s f r
    simp only [Fld.puts, List.foldl_cons, List.length_cons] at h1 ⊢
    omega
theorem puts_cons (q s : Bool) (f : Fld) (r : Nat) (l : List Nat) : f.puts q s (r :: l) = (f.put q s r).puts q s l := rfl
theorem add_sz (f : Fld) (x : Rn) : (f.add x).sz ≤ f.sz + x.text.size + 1 := by
  unfold Fld.add
  split
  · have := fin_sz f; omega
  · have h1 := puts_sz x.q x.s (letters x.text) (f.opens x.q)
    have h2 := letters_length x.text
    have h3 : (f.opens x.q).sz = f.sz := rfl
    omega
theorem adds_sz (n : Nat) : ∀ (l : List Rn) (f : Fld), (∀ x ∈ l, x.text.size ≤ n) → (l.foldl Fld.add f).sz ≤ f.sz + l.length * (n + 1)
  | [], _, _ => by simp
  | x :: l, f, h => by
    have h1 := adds_sz n l (f.add x) (fun y hy => h y (List.mem_cons_of_mem _ hy))
    have h2 := add_sz f x
    have h3 := h x List.mem_cons_self
    simp only [List.foldl_cons, List.length_cons, Nat.succ_mul]
    omega
end Go.Proofs.YtfepkhlifpbkfaaDoor.SpMath
