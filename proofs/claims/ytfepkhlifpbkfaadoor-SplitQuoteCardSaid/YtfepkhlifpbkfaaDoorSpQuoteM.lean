/-
  Proved: plain facts on quoted texts with breaks between. Conditions: as each says.
-/
import Derived.Test.YtfepkhlifpbkfaaDoorSpMath
namespace Go.Proofs.YtfepkhlifpbkfaaDoor.SpMath
open GlyphMath GlMath

def brkR : Rn := ⟨⟨#[]⟩, false, false, true⟩
/-- The runs so far. -/
def qRuns (l : List ByteArray) : Nat → List Rn
  | 0 => []
  | k + 1 => qRuns l k ++ (if k = 0 then [] else [brkR]) ++ [⟨l.getD k ⟨#[]⟩, true, k % 2 == 0, false⟩]
/-- The fields that they are. -/
def qChars (l : List ByteArray) (k : Nat) : List (List Ch) := (l.take k).map fun t => chM true (letters t)
theorem puts_quote (s : Bool) : ∀ (L : List Nat) (f : Fld), f.begun = true → f.puts true s L = ⟨f.ended, f.last ++ chM true L, true⟩
  | [], f, h => by
    obtain ⟨e, l, b⟩ := f
    simp only at h
    subst h
    simp [Fld.puts, chM]
  | r :: L, f, h => by
    rw [puts_cons]
    have e : f.put true s r = ⟨f.ended, f.last ++ [((r : Int), true)], true⟩ := by unfold Fld.put; simp
    rw [e, puts_quote s L _ rfl]
    simp [chM]
theorem add_quote (f : Fld) (t : ByteArray) (s : Bool) : f.add ⟨t, true, s, false⟩ = ⟨f.ended, f.last ++ chM true (letters t), true⟩ := by
  have e : f.add ⟨t, true, s, false⟩ = (f.opens true).puts true s (letters t) := rfl
  rw [e, puts_quote _ _ _ (by simp [Fld.opens])]
  rfl
theorem take_succ (l : List ByteArray) (k : Nat) (h : k < l.length) : qChars l (k + 1) = qChars l k ++ [chM true (letters (l.getD k ⟨#[]⟩))] := by
  unfold qChars
  rw [List.take_add_one, List.getElem?_eq_getElem h, List.map_append]
  simp [List.getD_eq_getElem?_getD, List.getElem?_eq_getElem h]
theorem quote_state (l : List ByteArray) : ∀ k, k < l.length → (fieldsF (qRuns l (k + 1))).begun = true ∧ (fieldsF (qRuns l (k + 1))).ended ++ [(fieldsF (qRuns l (k + 1))).last] = qChars l (k + 1)
  | 0, h => by
    have e : fieldsF (qRuns l 1) = fd0.add ⟨l.getD 0 ⟨#[]⟩, true, 0 % 2 == 0, false⟩ := rfl
    rw [e, add_quote, take_succ l 0 h]
    exact ⟨rfl, rfl⟩
  | k + 1, h => by
    obtain ⟨h1, h2⟩ := quote_state l k (by omega)
    have e : fieldsF (qRuns l (k + 2)) = ((fieldsF (qRuns l (k + 1))).add brkR).add ⟨l.getD (k + 1) ⟨#[]⟩, true, (k + 1) % 2 == 0, false⟩ := by
      unfold fieldsF
      rw [show qRuns l (k + 2) = qRuns l (k + 1) ++ [brkR] ++ [⟨l.getD (k + 1) ⟨#[]⟩, true, (k + 1) % 2 == 0, false⟩] from rfl]
      rw [List.foldl_append, List.foldl_append]
      rfl
    have e2 : (fieldsF (qRuns l (k + 1))).add brkR = ⟨qChars l (k + 1), [], false⟩ := by
      have e3 : (fieldsF (qRuns l (k + 1))).add brkR = (fieldsF (qRuns l (k + 1))).fin := rfl
      rw [e3]
      unfold Fld.fin
      rw [if_pos h1, h2]
    rw [e, e2, add_quote, take_succ l (k + 1) h]
    exact ⟨rfl, rfl⟩
theorem quote_fields (l : List ByteArray) : fieldsM (qRuns l l.length) = qChars l l.length := by
  cases h : l.length with
  | zero => rw [List.eq_nil_of_length_eq_zero h]; rfl
  | succ n =>
    obtain ⟨h1, h2⟩ := quote_state l n (by omega)
    unfold fieldsM Fld.fin
    rw [if_pos h1]
    exact h2
theorem qRuns_len (l : List ByteArray) : ∀ k, (qRuns l k).length ≤ 2 * k
  | 0 => Nat.le_refl _
  | k + 1 => by
    have := qRuns_len l k
    rw [show qRuns l (k + 1) = qRuns l k ++ (if k = 0 then [] else [brkR]) ++ [⟨l.getD k ⟨#[]⟩, true, k % 2 == 0, false⟩] from rfl]
    rw [List.length_append, List.length_append]
    split
    · simp; omega
    · simp; omega
theorem qRuns_size (l : List ByteArray) (n : Nat) (hl : ∀ t ∈ l, t.size ≤ n) : ∀ k, ∀ x ∈ qRuns l k, x.text.size ≤ n
  | 0, x, h => by cases h
  | k + 1, x, h => by
    rw [show qRuns l (k + 1) = qRuns l k ++ (if k = 0 then [] else [brkR]) ++ [⟨l.getD k ⟨#[]⟩, true, k % 2 == 0, false⟩] from rfl] at h
    rcases List.mem_append.1 h with h | h
    · rcases List.mem_append.1 h with h | h
      · exact qRuns_size l n hl k x h
      · split at h
        · cases h
        · rw [List.mem_singleton.1 h]; exact Nat.zero_le _
    · rw [List.mem_singleton.1 h]
      show (l.getD k ⟨#[]⟩).size ≤ n
      rw [List.getD_eq_getElem?_getD]
      cases e : l[k]? with
      | none => exact Nat.zero_le _
      | some t => exact hl t (List.mem_of_getElem? e)
end Go.Proofs.YtfepkhlifpbkfaaDoor.SpMath
