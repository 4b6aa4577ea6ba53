/-
  Proved: within a region that draws its order, an operation that only reads is taken first where what turns its cells waits for it by way of another. Conditions: as each says.
-/
import Derived.Test.YtbbopbbnhkcfdaaParseOrd
namespace Go.Proofs.Ytbbopbbnhkcfdaa
open Go

section
variable {P : Program} {ops : Array Oper} {Q : Exit → Act → World → Prop} {md : Region.Mode} {S : World → Prop} {L : Nat}
theorem wpAnyL_first2 {i : Nat} {path : List Nat} {oi : Oper} {v : Value} (hi : ops[i]? = some oi) (hsel : ∀ (j : Nat) (o : Oper) cs b, ops[j]? = some o → o.op ≠ .select cs b)
    (hQ : ∀ c a w, Q (.panic c) (a.put oi.dst v) w → Q (.panic c) a w) (hiL : i ≠ L) (hip : i ∉ path) (hP : ∀ m, m ∈ path ∨ m = L → ∃ p, (p = i ∨ p ∈ path) ∧ ∀ o, ops[m]? = some o → ∃ e ∈ o.after, Region.binds md e = true ∧ e.on = p) :
    ∀ (fuel : Nat) (listed : Array Bool) (a : Act) (w : World),
      (∀ j oj, ops[j]? = some oj → j ≠ i → listed.getD j true = false → (∀ e ∈ oj.after, Region.binds md e = true → e.on ≠ i) → oi.apart ops oj = true) →
      listed.getD L true = false → (∀ m ∈ path, listed.getD m true = false) → i ∈ Region.ready md ops listed → YieldsIf P ops S oi v a → S w →
      wpAnyL P md ops Q S L fuel (listed.setIfInBounds i true) (a.put oi.dst v) w → wpAnyL P md ops Q S L (fuel + 1) listed a w := by
  intro fuel
  induction fuel with
  | zero =>
    intro listed a w _ _ _ hr hy hS H
    refine ⟨fun h => (by rw [h] at hr; cases hr), fun j hj => ?_⟩
    by_cases hji : j = i
    · subst hji; exact hy.wpOp hi hS ⟨.inr hS, H⟩
    · have := ready_mono hj hji
      rw [H.1] at this
      cases this
  | succ fuel ih =>
    intro listed a w hfree hl hm hr hy hS H
    refine ⟨fun h => (by rw [h] at hr; cases hr), fun j hj => ?_⟩
    by_cases hji : j = i
    · subst hji; exact hy.wpOp hi hS ⟨.inr hS, H⟩
    · have h1 := H.2 j (ready_mono hj hji)
      obtain ⟨hjun, oj, hoj, hall⟩ := mem_ready.1 hj
      have hnotp : ∀ p, (p = i ∨ p ∈ path) → ∀ e ∈ oj.after, Region.binds md e = true → e.on ≠ p := fun p hp e he hb heq => by
        have h1 := hall e he hb
        have h0 : listed.getD p true = false := by
          rcases hp with rfl | hp
          · exact (mem_ready.1 hr).1
          · exact hm p hp
        rw [heq] at h1
        rcases Nat.lt_or_ge p listed.size with h' | h'
        · simp [h'] at h0 h1; rw [h0] at h1; cases h1
        · simp [Array.getElem?_eq_none h'] at h1
      have hnot := hnotp i (.inl rfl)
      have hjp : j ∉ path ∧ j ≠ L := by
        refine ⟨fun hjp => ?_, fun hjL => ?_⟩
        · obtain ⟨p, hp, hw⟩ := hP j (.inl hjp)
          obtain ⟨e, he, hb, heq⟩ := hw oj hoj
          exact hnotp p hp e he hb heq
        · obtain ⟨p, hp, hw⟩ := hP j (.inr hjL)
          obtain ⟨e, he, hb, heq⟩ := hw oj hoj
          exact hnotp p hp e he hb heq
      have hjL := hjp.2
      have hl' : (listed.setIfInBounds j true).getD L true = false := by rw [getD_set_ne true hjL]; exact hl
      have hm' : ∀ m ∈ path, (listed.setIfInBounds j true).getD m true = false := fun m hmp => by
        have hne : j ≠ m := fun e => by subst e; exact hjp.1 hmp
        rw [getD_set_ne true hne]
        exact hm m hmp
      have hl2 : ((listed.setIfInBounds i true).setIfInBounds j true).getD L true = false := by rw [getD_set_ne true hjL, getD_set_ne true hiL]; exact hl
      have h2 := wpOp_putIf hoj (hfree j oj hoj hji hjun hnot) (fun cs b => hsel i oi cs b hi) (fun cs b => hsel j oj cs b hoj) hQ hy h1
      have hfree' : ∀ k ok, ops[k]? = some ok → k ≠ i → (listed.setIfInBounds j true).getD k true = false →
          (∀ e ∈ ok.after, Region.binds md e = true → e.on ≠ i) → oi.apart ops ok = true := fun k ok hk hki hun hno => by
        refine hfree k ok hk hki ?_ hno
        by_cases hjk : j = k
        · subst hjk; exact hjun
        · rw [getD_set_ne true hjk] at hun; exact hun
      refine wpOp_mono (fun a' w' h3 => ?_) h2
      have hS' : S w' := h3.2.1.resolve_left (by rw [hl2]; decide)
      refine ⟨.inr hS', ih (listed.setIfInBounds j true) a' w' hfree' hl' hm' (ready_mono hr (Ne.symm hji)) h3.1 hS' ?_⟩
      rw [Array.setIfInBounds_comm _ _ hji]
      exact h3.2.2
/-- Each of a path waits for one ahead of it, the last operation too. -/
def pathB (md : Region.Mode) (ops : Array Oper) (L i : Nat) (path : List Nat) : Bool := (path ++ [L]).all fun m => (i :: path).any fun p => waitsFor md ops m p
theorem pathB_spec {i : Nat} {path : List Nat} (h : pathB md ops L i path = true) : ∀ m, m ∈ path ∨ m = L → ∃ p, (p = i ∨ p ∈ path) ∧ ∀ o, ops[m]? = some o → ∃ e ∈ o.after, Region.binds md e = true ∧ e.on = p := by
  intro m hm
  unfold pathB at h
  rw [List.all_eq_true] at h
  have h1 := h m (by simpa using hm)
  rw [List.any_eq_true] at h1
  obtain ⟨p, hp, hw⟩ := h1
  exact ⟨p, by simpa using hp, waitsFor_spec hw⟩
theorem takeM {i k : Nat} (path : List Nat) {oi : Oper} {v : Value} {fuel : Nat} {listed : Array Bool} {a : Act} {w : World} (hi : ops[i]? = some oi) (hk : oi.dst = some k)
    (hs : Region.noSelect ops = true) (hf : Region.free md ops listed i = true) (hr : (Region.ready md ops listed).contains i = true)
    (hQ : ∀ c a w, Q (.panic c) (a.put oi.dst v) w → Q (.panic c) a w) (hiL : (i != L) = true) (hip : path.contains i = false) (hP : pathB md ops L i path = true) (hl : listed.getD L true = false) (hm : (path.all fun m => !listed.getD m true) = true) (hw : Region.wanted oi (yielded ops a.tmps) = true)
    (hy : ∀ w, S w → (execOp a.eval oi).run P w = .ok (.value v) w) (hS : S w)
    (h : wpAnyL P md ops Q S L fuel (listed.setIfInBounds i true) { a with tmps := a.tmps.setIfInBounds k v } w) : wpAnyL P md ops Q S L (fuel + 1) listed a w :=
  wpAnyL_first2 hi (Region.noSelect_spec hs) hQ (by simpa using hiL) (fun hc => by rw [List.contains_iff_mem.2 hc] at hip; cases hip) (pathB_spec hP) fuel listed a w (Region.free_spec hi hf) hl (fun m hmp => by
    have := (List.all_eq_true.1 hm) m hmp
    simpa using this) (by simpa using hr) (Or.inl ⟨hw, hy⟩) hS (by rw [hk]; exact h)
end
end Go.Proofs.Ytbbopbbnhkcfdaa
