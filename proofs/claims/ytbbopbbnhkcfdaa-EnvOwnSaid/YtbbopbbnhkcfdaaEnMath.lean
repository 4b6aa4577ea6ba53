/-
  Proved: facts on rows of names in order, byte by byte: where a name stands, what is set, what is taken. Conditions: none.
-/
import Derived.Test.YtbbopbbnhkcfdaaProg
import Derived.Lib.Bytealg
import Derived.Laws.Strings
namespace Go.Proofs.Ytbbopbbnhkcfdaa.EnMath
open Go

theorem less_irrefl : ∀ a : List UInt8, Op.bytesLess a a = false
  | [] => rfl
  | x :: a => by simp [Op.bytesLess, less_irrefl a]
theorem less_trans : ∀ a b c : List UInt8, Op.bytesLess a b = true → Op.bytesLess b c = true → Op.bytesLess a c = true
  | [], [], _, h, _ => by simp [Op.bytesLess] at h
  | [], _ :: _, [], _, h => by simp [Op.bytesLess] at h
  | [], _ :: _, _ :: _, _, _ => by simp [Op.bytesLess]
  | _ :: _, [], _, h, _ => by simp [Op.bytesLess] at h
  | _ :: _, _ :: _, [], _, h => by simp [Op.bytesLess] at h
  | x :: a, y :: b, z :: c, h, k => by
    simp only [Op.bytesLess, Bool.or_eq_true, decide_eq_true_eq, Bool.and_eq_true, beq_iff_eq] at h k ⊢
    rcases h with h | ⟨rfl, h⟩ <;> rcases k with k | ⟨rfl, k⟩
    · exact .inl (UInt8.lt_trans h k)
    · exact .inl h
    · exact .inl k
    · exact .inr ⟨rfl, less_trans a b c h k⟩
theorem less_total : ∀ a b : List UInt8, Op.bytesLess a b = false → Op.bytesLess b a = false → a = b
  | [], [], _, _ => rfl
  | [], _ :: _, h, _ => by simp [Op.bytesLess] at h
  | _ :: _, [], _, h => by simp [Op.bytesLess] at h
  | x :: a, y :: b, h, k => by
    simp only [Op.bytesLess, Bool.or_eq_false_iff, decide_eq_false_iff_not, Bool.and_eq_false_iff, beq_eq_false_iff_ne] at h k
    have e : x = y := UInt8.le_antisymm (UInt8.not_lt.1 k.1) (UInt8.not_lt.1 h.1)
    subst e
    rw [less_total a b (h.2.resolve_left (by simp)) (k.2.resolve_left (by simp))]
theorem cmp_less : ∀ a b : List UInt8, decide (Lib.compareBytes a b < 0) = Op.bytesLess a b
  | [], [] => by simp [Lib.compareBytes, Op.bytesLess]
  | [], _ :: _ => by simp [Lib.compareBytes, Op.bytesLess]
  | _ :: _, [] => by simp [Lib.compareBytes, Op.bytesLess]
  | x :: a, y :: b => by
    rw [Lib.compareBytes, Op.bytesLess]
    by_cases h : x < y
    · simp [h]
    · rw [if_neg h]
      by_cases k : y < x
      · have hne : x ≠ y := fun e => by subst e; exact h k
        simp [h, k, hne]
      · have e : x = y := UInt8.le_antisymm (UInt8.not_lt.1 k) (UInt8.not_lt.1 h)
        subst e
        rw [if_neg k, cmp_less a b]
        simp
theorem cmp_zero : ∀ a b : List UInt8, decide (Lib.compareBytes a b = 0) = decide (a = b)
  | [], [] => by simp [Lib.compareBytes]
  | [], _ :: _ => by simp [Lib.compareBytes]
  | _ :: _, [] => by simp [Lib.compareBytes]
  | x :: a, y :: b => by
    rw [Lib.compareBytes]
    by_cases h : x < y
    · have hne : x ≠ y := fun e => by subst e; exact UInt8.lt_irrefl _ h
      simp [h, hne]
    · rw [if_neg h]
      by_cases k : y < x
      · have hne : x ≠ y := fun e => by subst e; exact h k
        simp [k, hne]
      · have e : x = y := UInt8.le_antisymm (UInt8.not_lt.1 k) (UInt8.not_lt.1 h)
        subst e
        rw [if_neg k, cmp_zero a b]
        simp

/-- Is a name less than another? -/
def ltN (a b : ByteArray) : Bool := Op.bytesLess a.toList b.toList
def eqN (a b : ByteArray) : Bool := a.toList == b.toList
def cmpN (a b : ByteArray) : Int := Lib.compareBytes a.data.toList b.data.toList
theorem ba_ext {a b : ByteArray} (h : a.toList = b.toList) : a = b := by
  rw [ByteArray.toList_eq, ByteArray.toList_eq] at h
  exact ByteArray.ext (Array.ext' h)
theorem eqN_iff {a b : ByteArray} : eqN a b = true ↔ a = b := by
  unfold eqN
  rw [beq_iff_eq]
  exact ⟨ba_ext, fun h => by rw [h]⟩
theorem eqN_self (a : ByteArray) : eqN a a = true := eqN_iff.2 rfl
theorem eqN_comm (a b : ByteArray) : eqN a b = eqN b a := by
  cases h : eqN a b <;> cases k : eqN b a
  · rfl
  · rw [eqN_iff.1 k, eqN_self] at h; cases h
  · rw [eqN_iff.1 h, eqN_self] at k; cases k
  · rfl
theorem lt_irrefl (a : ByteArray) : ltN a a = false := less_irrefl _
theorem lt_trans {a b c : ByteArray} (h : ltN a b = true) (k : ltN b c = true) : ltN a c = true := less_trans _ _ _ h k
theorem lt_total {a b : ByteArray} (h : ltN a b = false) (k : eqN a b = false) : ltN b a = true := by
  cases e : ltN b a
  · rw [eqN_iff.2 (ba_ext (less_total _ _ h e))] at k; cases k
  · rfl
theorem lt_asymm {a b : ByteArray} (h : ltN a b = true) : ltN b a = false := by
  cases e : ltN b a
  · rfl
  · have := lt_trans h e; rw [lt_irrefl] at this; cases this
theorem lt_ne {a b : ByteArray} (h : ltN a b = true) : eqN a b = false := by
  cases e : eqN a b
  · rfl
  · rw [eqN_iff.1 e, lt_irrefl] at h; cases h
theorem cmpN_lt (a b : ByteArray) : decide (cmpN a b < 0) = ltN a b := by
  unfold cmpN ltN
  rw [cmp_less, ByteArray.toList_eq, ByteArray.toList_eq]
theorem cmpN_eq (a b : ByteArray) : (cmpN a b == 0) = eqN a b := by
  have h := cmp_zero a.data.toList b.data.toList
  unfold cmpN eqN
  rw [ByteArray.toList_eq, ByteArray.toList_eq, show (Lib.compareBytes a.data.toList b.data.toList == 0) = decide (Lib.compareBytes a.data.toList b.data.toList = 0) by cases hd : decide (Lib.compareBytes a.data.toList b.data.toList = 0) <;> simp_all, h]
  cases hd : decide (a.data.toList = b.data.toList) <;> simp_all

section
variable {β : Type}
/-- In order, no name twice. -/
def Ordd (l : List (ByteArray × β)) : Prop := l.Pairwise fun x y => ltN x.1 y.1 = true
def isO (l : List (ByteArray × β)) : Bool := decide (l.Pairwise fun x y => ltN x.1 y.1 = true)
theorem isO_iff {l : List (ByteArray × β)} : isO l = true ↔ Ordd l := by simp [isO, Ordd]
def getM : List (ByteArray × β) → ByteArray → Option β
  | [], _ => none
  | x :: r, n => if eqN x.1 n then some x.2 else getM r n
def delM (l : List (ByteArray × β)) (n : ByteArray) : List (ByteArray × β) := l.filter fun x => !eqN x.1 n
def setM (l : List (ByteArray × β)) (n : ByteArray) (v : β) : List (ByteArray × β) := (delM l n).takeWhile (fun x => ltN x.1 n) ++ (n, v) :: (delM l n).dropWhile (fun x => ltN x.1 n)

def one (n : ByteArray) : Option β → List (ByteArray × β)
  | none => []
  | some v => [(n, v)]
/-- What is less than a name, what is of that name, what is greater. -/
structure Spl (l : List (ByteArray × β)) (n : ByteArray) (A : List (ByteArray × β)) (o : Option β) (C : List (ByteArray × β)) : Prop where
  is : l = A ++ (one n o ++ C)
  lo : ∀ x ∈ A, ltN x.1 n = true
  hi : ∀ x ∈ C, ltN n x.1 = true
theorem spl : ∀ (l : List (ByteArray × β)) (n : ByteArray), Ordd l → ∃ A o C, Spl l n A o C
  | [], n, _ => ⟨[], none, [], rfl, by simp, by simp⟩
  | x :: r, n, h => by
    have h' := List.pairwise_cons.1 h
    cases k : ltN x.1 n
    · cases e : eqN x.1 n
      · have hx := lt_total k e
        refine ⟨[], none, x :: r, rfl, by simp, fun y hy => ?_⟩
        rcases List.mem_cons.1 hy with rfl | hy
        · exact hx
        · exact lt_trans hx (h'.1 y hy)
      · have e := eqN_iff.1 e
        subst e
        exact ⟨[], some x.2, r, rfl, by simp, h'.1⟩
    · obtain ⟨A, o, C, s⟩ := spl r n h'.2
      refine ⟨x :: A, o, C, by rw [s.is]; rfl, fun y hy => ?_, s.hi⟩
      rcases List.mem_cons.1 hy with rfl | hy
      · exact k
      · exact s.lo y hy
section
variable {l : List (ByteArray × β)} {n : ByteArray} {A : List (ByteArray × β)} {o : Option β} {C : List (ByteArray × β)}
theorem Spl.le (s : Spl l n A o C) : A.length ≤ l.length := by rw [s.is]; simp
theorem Spl.lt (s : Spl l n A o C) {k : Nat} {x : ByteArray × β} (h : l[k]? = some x) : ltN x.1 n = decide (k < A.length) := by
  rw [s.is] at h
  by_cases hk : k < A.length
  · rw [List.getElem?_append_left hk] at h
    rw [s.lo x (List.mem_of_getElem? h)]
    simp [hk]
  · rw [List.getElem?_append_right (by omega)] at h
    have hm := List.mem_of_getElem? h
    have : ltN x.1 n = false := by
      rcases List.mem_append.1 hm with hm | hm
      · cases o with
        | none => simp [one] at hm
        | some v => simp [one] at hm; subst hm; exact lt_irrefl _
      · exact lt_asymm (s.hi x hm)
    rw [this]
    simp [hk]
theorem Spl.at_ (s : Spl l n A o C) {x : ByteArray × β} (h : l[A.length]? = some x) : eqN x.1 n = o.isSome ∧ ∀ v, o = some v → x = (n, v) := by
  rw [s.is, List.getElem?_append_right (by omega), Nat.sub_self] at h
  cases o with
  | none =>
    simp only [one, List.nil_append] at h
    refine ⟨?_, fun v hv => by cases hv⟩
    have := lt_ne (s.hi x (List.mem_of_getElem? h))
    rw [eqN_comm] at this
    exact this
  | some v =>
    simp [one] at h
    subst h
    exact ⟨eqN_self _, fun v' hv => by cases hv; rfl⟩
theorem Spl.end_ (s : Spl l n A o C) (h : l.length ≤ A.length) : o = none := by
  rw [s.is] at h
  cases o with
  | none => rfl
  | some v => simp [one] at h; omega
theorem get_append : ∀ (a b : List (ByteArray × β)) (n : ByteArray), (∀ x ∈ a, eqN x.1 n = false) → getM (a ++ b) n = getM b n
  | [], _, _, _ => rfl
  | x :: a, b, n, h => by
    rw [List.cons_append, getM, h x (by simp), if_neg (by simp)]
    exact get_append a b n fun y hy => h y (by simp [hy])
theorem get_none : ∀ (a : List (ByteArray × β)) (n : ByteArray), (∀ x ∈ a, eqN x.1 n = false) → getM a n = none
  | [], _, _ => rfl
  | x :: a, n, h => by
    rw [getM, h x (by simp), if_neg (by simp)]
    exact get_none a n fun y hy => h y (by simp [hy])
theorem Spl.neA (s : Spl l n A o C) : ∀ x ∈ A, eqN x.1 n = false := fun x hx => lt_ne (s.lo x hx)
theorem Spl.neC (s : Spl l n A o C) : ∀ x ∈ C, eqN x.1 n = false := fun x hx => by rw [eqN_comm]; exact lt_ne (s.hi x hx)
theorem Spl.get (s : Spl l n A o C) : getM l n = o := by
  rw [s.is, get_append A _ n s.neA]
  cases o with
  | none => exact get_none C n s.neC
  | some v => simp [one, getM, eqN_self]
theorem filter_all {a : List (ByteArray × β)} {n : ByteArray} (h : ∀ x ∈ a, eqN x.1 n = false) : a.filter (fun x => !eqN x.1 n) = a := List.filter_eq_self.2 fun x hx => by rw [h x hx]; rfl
theorem Spl.del (s : Spl l n A o C) : delM l n = A ++ C := by
  unfold delM
  rw [s.is, List.filter_append, List.filter_append, filter_all s.neA, filter_all s.neC]
  cases o with
  | none => rfl
  | some v => simp [one, eqN_self]
theorem takeWhile_all {a b : List (ByteArray × β)} {p : ByteArray × β → Bool} (h : ∀ x ∈ a, p x = true) (k : ∀ x ∈ b, p x = false) : (a ++ b).takeWhile p = a ∧ (a ++ b).dropWhile p = b := by
  induction a with
  | nil =>
    cases b with
    | nil => exact ⟨rfl, rfl⟩
    | cons y b =>
      have := k y (by simp)
      simp [this]
  | cons x a ih =>
    have hx := h x (by simp)
    obtain ⟨i1, i2⟩ := ih fun y hy => h y (by simp [hy])
    simp only [List.cons_append, List.takeWhile_cons, List.dropWhile_cons, hx, if_true]
    exact ⟨by rw [i1], i2⟩
theorem Spl.set (s : Spl l n A o C) (v : β) : setM l n v = A ++ (n, v) :: C := by
  unfold setM
  rw [s.del]
  obtain ⟨h1, h2⟩ := takeWhile_all (a := A) (b := C) (p := fun x => ltN x.1 n) s.lo (fun x hx => lt_asymm (s.hi x hx))
  rw [h1, h2]
theorem Spl.apart (s : Spl l n A o C) (h : Ordd l) : Ordd A ∧ Ordd C ∧ ∀ x ∈ A, ∀ y ∈ C, ltN x.1 y.1 = true := by
  unfold Ordd at h
  rw [s.is] at h
  obtain ⟨h1, h2, -⟩ := List.pairwise_append.1 h
  exact ⟨h1, (List.pairwise_append.1 h2).2.1, fun x hx y hy => lt_trans (s.lo x hx) (s.hi y hy)⟩
theorem Spl.ord_del (s : Spl l n A o C) (h : Ordd l) : Ordd (A ++ C) := by
  obtain ⟨h1, h2, h3⟩ := s.apart h
  exact List.pairwise_append.2 ⟨h1, h2, h3⟩
theorem Spl.ord_set (s : Spl l n A o C) (h : Ordd l) (v : β) : Ordd (A ++ (n, v) :: C) := by
  obtain ⟨h1, h2, h3⟩ := s.apart h
  refine List.pairwise_append.2 ⟨h1, List.pairwise_cons.2 ⟨s.hi, h2⟩, fun x hx y hy => ?_⟩
  rcases List.mem_cons.1 hy with rfl | hy
  · exact s.lo x hx
  · exact h3 x hx y hy
end
theorem ord_del {l : List (ByteArray × β)} {n : ByteArray} (h : Ordd l) : Ordd (delM l n) := by
  obtain ⟨A, o, C, s⟩ := spl l n h
  rw [s.del]; exact s.ord_del h
theorem ord_set {l : List (ByteArray × β)} {n : ByteArray} {v : β} (h : Ordd l) : Ordd (setM l n v) := by
  obtain ⟨A, o, C, s⟩ := spl l n h
  rw [s.set]; exact s.ord_set h v
theorem del_len (l : List (ByteArray × β)) (n : ByteArray) : (delM l n).length ≤ l.length := List.length_filter_le _ _
theorem set_len (l : List (ByteArray × β)) (n : ByteArray) (v : β) : (setM l n v).length ≤ l.length + 1 := by
  have h := del_len l n
  have e := congrArg List.length (List.takeWhile_append_dropWhile (p := fun x : ByteArray × β => ltN x.1 n) (l := delM l n))
  rw [List.length_append] at e
  unfold setM
  rw [List.length_append, List.length_cons]
  omega
/-- What is set is got. -/
theorem get_set {l : List (ByteArray × β)} {n : ByteArray} {v : β} (h : Ordd l) : getM (setM l n v) n = some v := by
  obtain ⟨A, o, C, s⟩ := spl l n h
  rw [s.set, get_append A _ n s.neA, getM, eqN_self, if_pos rfl]
theorem ord_adj : ∀ {l : List (ByteArray × β)}, (∀ (k : Nat) (x y : ByteArray × β), l[k]? = some x → l[k + 1]? = some y → ltN x.1 y.1 = true) → Ordd l
  | [], _ => List.Pairwise.nil
  | x :: r, h => by
    have hr : Ordd r := ord_adj fun k a b ha hb => h (k + 1) a b (by simpa using ha) (by simpa using hb)
    refine List.pairwise_cons.2 ⟨fun y hy => ?_, hr⟩
    cases r with
    | nil => cases hy
    | cons z r =>
      have hz := h 0 x z rfl rfl
      rcases List.mem_cons.1 hy with rfl | hy
      · exact hz
      · exact lt_trans hz ((List.pairwise_cons.1 hr).1 y hy)
theorem ord_not {l : List (ByteArray × β)} {k : Nat} {x y : ByteArray × β} (hx : l[k]? = some x) (hy : l[k + 1]? = some y) (h : ltN x.1 y.1 = false) : isO l = false := by
  cases e : isO l
  · rfl
  · have := isO_iff.1 e
    obtain ⟨h1, rfl⟩ := List.getElem?_eq_some_iff.1 hx
    obtain ⟨h2, rfl⟩ := List.getElem?_eq_some_iff.1 hy
    rw [List.pairwise_iff_getElem.1 this k (k + 1) h1 h2 (by omega)] at h
    cases h
end
end Go.Proofs.Ytbbopbbnhkcfdaa.EnMath
