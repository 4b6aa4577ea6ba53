/-
  Proved: the statements' own known script. Conditions: the program's shapes lie as they should.
-/
import Derived.Test.YtloaalapkmbgeaaDoorTreeIs
namespace Go.Proofs.YtloaalapkmbgeaaDoor
open Go Go.RowKit GlyphMath LexMath TreeMath

def aPt : Pt := ⟨1, [97], [], [], false⟩
def aNd : Nd := ⟨[99, 109, 100], [], [], [[aPt]], [], [], []⟩
theorem a_small : Small [aPt] := .mk _ (fun q hq => by obtain rfl : q = aPt := (by simpa using hq); decide) (fun q hq => by obtain rfl : q = aPt := (by simpa using hq); exact Small.nil)
theorem an_small : NSmall aNd where
  words := fun y hy => by obtain rfl : y = [aPt] := (by simpa [aNd] using hy); exact a_small
  pats := fun _ h => by simp [aNd] at h
  assigns := fun _ h => by simp [aNd] at h
  redirs := fun _ h => by simp [aNd] at h
  name := by decide
  names := fun _ h => by simp [aNd] at h
theorem known_is : isT [aNd] 0 = true := by decide +kernel
theorem none_is : isT [] 0 = false := by decide +kernel
theorem known_word : wordT [aPt] = true := by decide +kernel

theorem spot_block {W : World} {k : Nat} {cs : List Value} {t : TypeId} {fz : Nat × Nat} (h : W.heap[k]? = some (.cells cs.toArray t fz)) {size : Nat} (j : Nat) (ds : List Value) (hd : ∀ i u, ds[i]? = some u → cs[j * size + i]? = some u) : SpotAt W (some ⟨k, 0, none⟩) j size ds :=
  ⟨k, 0, rfl, fun i u hu => by rw [cell_plain h, Nat.zero_add]; simpa using hd i u hu⟩
/-- One part in a block of its own. -/
theorem one_part {W : World} {k : Nat} {p : Pt} {u : Value} {t : TypeId} {fz : Nat × Nat} (h : W.heap[k]? = some (.cells (pcells p u).toArray t fz)) (hu : PsAt W u p.word) (c : Nat) : PsAt W (.slice (some ⟨k, 0, none⟩) 1 c) [p] :=
  .mk (some ⟨k, 0, none⟩) c [p] [u] rfl (by simp [maxLen]) (fun j q v hq hv => by
    match j, hq, hv with
    | 0, hq, hv =>
      obtain rfl := Option.some.inj hq
      obtain rfl := Option.some.inj hv
      exact spot_block h 0 _ (fun i u hu => by simpa using hu)
    | j + 1, hq, _ => simp at hq) (fun j q v hq hv => by
    match j, hq, hv with
    | 0, hq, hv =>
      obtain rfl := Option.some.inj hq
      obtain rfl := Option.some.inj hv
      exact hu
    | j + 1, hq, _ => simp at hq)
theorem one_row {W : World} {k : Nat} {α : Type} {P : α → List Value → Prop} {x : α} {cs : List Value} {t : TypeId} {fz : Nat × Nat} (h : W.heap[k]? = some (.cells cs.toArray t fz)) (size : Nat) (hP : P x cs) (c : Nat) : SlAt W size α P (.slice (some ⟨k, 0, none⟩) 1 c) [x] :=
  ⟨⟨some ⟨k, 0, none⟩, c, rfl, fun j y hy => by
    match j, hy with
    | 0, hy =>
      obtain rfl := Option.some.inj hy
      exact ⟨cs, spot_block h 0 _ (fun i u hu => by simpa using hu), hP⟩
    | j + 1, hy => simp at hy⟩, by simp [maxLen]⟩

theorem known_ps {W : World} {pb : Nat} {t : TypeId} (h : W.heap[pb]? = some (.cells #[.int .i64 1, .string ⟨#[97]⟩, .string ⟨#[]⟩, .slice none 0 0, .bool false] t (0, 0))) : PsAt W (.slice (some ⟨pb, 0, none⟩) 1 1) [aPt] := one_part (p := aPt) h (PsAt.nil _ _) 1
theorem known_ns {W : World} {nb wb pb : Nat} {t1 t2 t3 : TypeId} (h1 : W.heap[nb]? = some (.cells #[.string ⟨#[99, 109, 100]⟩, .string ⟨#[]⟩, .slice none 0 0, .slice (some ⟨wb, 0, none⟩) 1 1, .slice none 0 0, .slice none 0 0, .slice none 0 0] t1 (0, 0)))
    (h2 : W.heap[wb]? = some (.cells #[.slice (some ⟨pb, 0, none⟩) 1 1] t2 (0, 0))) (h3 : W.heap[pb]? = some (.cells #[.int .i64 1, .string ⟨#[97]⟩, .string ⟨#[]⟩, .slice none 0 0, .bool false] t3 (0, 0))) : NsAt W (.slice (some ⟨nb, 0, none⟩) 1 1) [aNd] :=
  one_row h1 7 ⟨_, _, _, _, _, rfl, SlAt.nil _ _ _ _, one_row h2 1 ⟨_, rfl, known_ps h3⟩ 1, SlAt.nil _ _ _ _, SlAt.nil _ _ _ _, SlAt.nil _ _ _ _⟩ 1

/-- The block ahead of the last. -/
theorem heap_alloc_two (w : World) (o p : Obj) : ((w.alloc o).alloc p).heap[w.heap.size]? = some o := (Below.heap_alloc _ p _ (by rw [World.size_alloc]; omega)).trans (heap_alloc_new w o)
theorem heap_alloc_last (w : World) (o p : Obj) : ((w.alloc o).alloc p).heap[w.heap.size + 1]? = some p := by
  have := heap_alloc_new (w.alloc o) p
  rwa [World.size_alloc] at this

set_option maxHeartbeats 1000000 in
set_option maxRecDepth 100000 in
theorem known_any (w : World) (hS : Shapes w) :
    Calls Tryd.prog 10 #[] w fun e w' => e = .returned (.bool true) ∧ Below w.heap.size w w' := by
  have HS := Lib.hid hS
  have HP := Lib.hid (fun W v (h : PsAt W v [aPt]) => plain_any [aPt] v W h)
  have HI := Lib.hid (fun W np nc (hN : NsAt W (.slice np 1 nc) [aNd]) (hS : Shapes W) => is_any [aNd] 0 np nc W hN hS (fun n hn => by obtain rfl : n = aNd := (by simpa using hn); exact an_small))
  have HZ := Lib.hid (fun W (hS : Shapes W) => is_any [] 0 none 0 W (SlAt.nil _ _ _ _) hS (fun n hn => by simp at hn))
  rw [known_is] at HI
  rw [none_is] at HZ
  have HRS := Lib.hid (show ∀ W, Calls Tryd.prog 11 #[.string ⟨#[101, 115, 97, 99]⟩] W fun e w' => e = .returned (.bool true) ∧ W = w' from fun W => reserved_any [101, 115, 97, 99] W)
  clear hS
  go_enter Tryd.func10, Tryd.ntmps10
  go_wp2_with fail
  have h3 := heap_alloc_two w (.cells #[.int .i64 1, .string ⟨#[97]⟩, .string ⟨#[]⟩, .slice none 0 0, .bool false] 30) (.cells #[.slice (some ⟨w.heap.size, 0, none⟩) 1 1] 33)
  have h2 := heap_alloc_last w (.cells #[.int .i64 1, .string ⟨#[97]⟩, .string ⟨#[]⟩, .slice none 0 0, .bool false] 30) (.cells #[.slice (some ⟨w.heap.size, 0, none⟩) 1 1] 33)
  have HA := Lib.hid (below_two w (.cells #[.int .i64 1, .string ⟨#[97]⟩, .string ⟨#[]⟩, .slice none 0 0, .bool false] 30) (.cells #[.slice (some ⟨w.heap.size, 0, none⟩) 1 1] 33))
  refine (HP.out _ _ (known_ps h3)).mono ?_
  rintro e w2 ⟨rfl, hb⟩
  rw [show T ((plainT [aPt]).getD []) = ⟨#[97]⟩ from rfl, show (plainT [aPt]).isSome = true from rfl]
  have h3 := (hb.block _ (Array.getElem?_eq_some_iff.1 h3).1).trans h3
  have h2 := (hb.block _ (Array.getElem?_eq_some_iff.1 h2).1).trans h2
  have c2 : w2.cell? ⟨w.heap.size + 1, 0, none⟩ = some (.slice (some ⟨w.heap.size, 0, none⟩) 1 1) := cell_plain h2 0
  have HB2 := Lib.hid (HA.out.trans (hb.mono HA.out.size))
  have H3 := Lib.hid h3
  clear h3 h2 hb
  go_wp2_with fail
  have hw4 := below_two w2 (.cells #[.slice (some ⟨w.heap.size, 0, none⟩) 1 1] 33) (.cells #[.string ⟨#[99, 109, 100]⟩, .string ⟨#[]⟩, .slice none 0 0, .slice (some ⟨w2.heap.size, 0, none⟩) 1 1, .slice none 0 0, .slice none 0 0, .slice none 0 0] 49)
  have k3 := (hw4.block _ (Array.getElem?_eq_some_iff.1 H3.out).1).trans H3.out
  have k2 := heap_alloc_two w2 (.cells #[.slice (some ⟨w.heap.size, 0, none⟩) 1 1] 33) (.cells #[.string ⟨#[99, 109, 100]⟩, .string ⟨#[]⟩, .slice none 0 0, .slice (some ⟨w2.heap.size, 0, none⟩) 1 1, .slice none 0 0, .slice none 0 0, .slice none 0 0] 49)
  have k1 := heap_alloc_last w2 (.cells #[.slice (some ⟨w.heap.size, 0, none⟩) 1 1] 33) (.cells #[.string ⟨#[99, 109, 100]⟩, .string ⟨#[]⟩, .slice none 0 0, .slice (some ⟨w2.heap.size, 0, none⟩) 1 1, .slice none 0 0, .slice none 0 0, .slice none 0 0] 49)
  have h4 := HB2.out.trans (hw4.mono HB2.out.size)
  refine (HI.out _ _ _ (known_ns k1 k2 k3) (HS.out.below h4)).mono ?_
  rintro e w3 ⟨rfl, hb⟩
  have HB3 := Lib.hid (h4.trans (hb.mono h4.size))
  clear k1 k2 k3 hb h4 hw4
  go_wp2_with (first
    | (go_at_call 11; refine (HRS.out _).mono ?_; rintro e w4 ⟨rfl, rfl⟩)
    | (go_at_call 8; refine (HZ.out _ (HS.out.below HB3.out)).mono ?_; rintro e w5 ⟨rfl, hb⟩; have HB5 := Lib.hid (HB3.out.trans (hb.mono HB3.out.size)); clear hb))
  go_ret
  exact ⟨rfl, HB5.out⟩
end Go.Proofs.YtloaalapkmbgeaaDoor
