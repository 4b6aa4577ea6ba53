/-
  Proved: the walk of the law EnvOwn: it answers true and changes nothing that was there. Conditions: the arguments lie in memory as the row says.
-/
import Derived.Test.YtbbopbbnhkcfdaaEnAct
import Derived.Test.YtbbopbbnhkcfdaaEnLast
import Derived.Deep.CutRange
import Derived.Deep.CutBlock
namespace Go.Proofs.Ytbbopbbnhkcfdaa
open Go Go.RowKit EnMath

section
variable {P : Program} {ops : Array Oper} {Q : Exit → Act → World → Prop} {md : Region.Mode} {S : World → Prop} {L : Nat}
/-- Three operations that may come up. -/
theorem threeL {i j k : Nat} {o1 o2 o3 : Oper} {fuel : Nat} {listed : Array Bool} {a : Act} {w : World} (hr : Region.ready md ops listed = [i, j, k]) (h1 : ops[i]? = some o1) (h2 : ops[j]? = some o2) (h3 : ops[k]? = some o3) (hw1 : Region.wanted o1 (yielded ops a.tmps) = true) (hw2 : Region.wanted o2 (yielded ops a.tmps) = true) (hw3 : Region.wanted o3 (yielded ops a.tmps) = true)
    (g1 : ∀ K : Act → World → Prop, Shut (∀ a w, ((listed.setIfInBounds i true).getD L true = true ∨ S w) → wpAnyL P md ops Q S L fuel (listed.setIfInBounds i true) a w → K a w) → Oper.wp P o1 a w K Q)
    (g2 : ∀ K : Act → World → Prop, Shut (∀ a w, ((listed.setIfInBounds j true).getD L true = true ∨ S w) → wpAnyL P md ops Q S L fuel (listed.setIfInBounds j true) a w → K a w) → Oper.wp P o2 a w K Q)
    (g3 : ∀ K : Act → World → Prop, Shut (∀ a w, ((listed.setIfInBounds k true).getD L true = true ∨ S w) → wpAnyL P md ops Q S L fuel (listed.setIfInBounds k true) a w → K a w) → Oper.wp P o3 a w K Q) : wpAnyL P md ops Q S L (fuel + 1) listed a w := by
  refine ⟨fun h0 => (by rw [h0] at hr; cases hr), fun m hm => ?_⟩
  rw [hr] at hm
  simp only [List.mem_cons, List.not_mem_nil, or_false] at hm
  rcases hm with rfl | rfl | rfl
  · exact wpOp_step h1 fun K' hK => by
      rw [if_pos hw1]
      exact g1 K' fun a w h1 h2 => hK a w ⟨h1, h2⟩
  · exact wpOp_step h2 fun K' hK => by
      rw [if_pos hw2]
      exact g2 K' fun a w h1 h2 => hK a w ⟨h1, h2⟩
  · exact wpOp_step h3 fun K' hK => by
      rw [if_pos hw3]
      exact g3 K' fun a w h1 h2 => hK a w ⟨h1, h2⟩
end
theorem Blk.ne {w : World} {g g' : Nat} {o o' : Obj} (h : Blk w g o) (h' : Blk w g' o') (hne : o ≠ o') : g ≠ g' := fun e => by
  subst e
  exact hne (Option.some.inj (Eq.trans (Eq.symm h) h'))
theorem own_apart {w : World} {B e g e' : Nat} {sz n : Nat} {v : Value} {xs : List Value} {cs : Array Value} (h : w.ownsRow B e sz v n xs) (hb : Blk w g (.cells cs e')) (hne : e ≠ e') : v.ownBlock ≠ some g := fun ho => by
  rcases h.2 with ⟨rfl, -⟩ | ⟨g', cap, cur, rfl, -, hg, -⟩
  · cases ho
  · simp only [Value.ownBlock, Option.some.injEq] at ho
    subst ho
    have := Option.some.inj (Eq.trans (Eq.symm hg) hb)
    simp only [Obj.cells.injEq] at this
    exact hne this.2.1
abbrev ZE : Obj := .cells #[.slice none 0 0, .slice none 0 0, .slice none 0 0] 26
theorem Vr.zero {w : World} {g : Nat} (h : Blk w g ZE) : Vr w g ⟨[], [], []⟩ := ⟨_, _, _, _, _, _, _, _, _, h, env_nil w⟩
def ownM (E : Ev) (a : Ac) : Ev := { vars := setM E.vars a.name a.value, args := E.args, funs := setM E.funs a.name a.n }
theorem Fine.own {E : Ev} {k : Nat} (h : Fine E k) (a : Ac) : Fine (ownM E a) (k + 1) := by
  have h1 := set_len E.vars a.name a.value
  have h3 := set_len E.funs a.name a.n
  have h4 := h.lv
  have h5 := h.lf
  exact ⟨ord_set h.vars, ord_set h.funs, by show (setM E.vars a.name a.value).length ≤ _; omega, by show (setM E.funs a.name a.n).length ≤ _; omega, h.la⟩

theorem own_many (pl : Option Addr) (nl cl : Nat) (a b : Ac) (w : World) (hn : 20 < nl) :
    Calls Try.prog 4 #[.slice pl nl cl, .agg #[.int .i64 a.kind, .string a.name, .string a.value, .int .i64 a.n], .agg #[.int .i64 b.kind, .string b.name, .string b.value, .int .i64 b.n]] w fun e w' => e = .returned (.bool true) ∧ Below w.heap.size w w' := by
  have HB := Lib.hid (en_alloc (en_alloc (Below.refl _ w) (.cells #[.int .i64 a.kind, .string a.name, .string a.value, .int .i64 a.n] 31)) (.cells #[.int .i64 b.kind, .string b.name, .string b.value, .int .i64 b.n] 31))
  have g1 : decide ((20 : Int) < (nl : Int)) = true := decide_eq_true (by omega)
  clear hn
  go_enter Try.func4, Try.ntmps4
  go_wp2_with fail
  go_ret
  exact ⟨rfl, HB.out⟩

set_option maxHeartbeats 8000000 in
set_option maxRecDepth 10000 in
theorem own_few {l : List Ac} (pl : Option Addr) (cl : Nat) (a b : Ac) (w : World) (hl : Rd 4 aC w (.slice pl l.length cl) l) (hn : l.length ≤ 20) :
    Calls Try.prog 4 #[.slice pl l.length cl, .agg #[.int .i64 a.kind, .string a.name, .string a.value, .int .i64 a.n], .agg #[.int .i64 b.kind, .string b.name, .string b.value, .int .i64 b.n]] w fun e w' => e = .returned (.bool true) ∧ Below w.heap.size w w' := by
  obtain ⟨WA, hWA⟩ : ∃ W, w.alloc (.cells #[.int .i64 a.kind, .string a.name, .string a.value, .int .i64 a.n] 31) = W := ⟨_, rfl⟩
  obtain ⟨WB, hWB⟩ : ∃ W, WA.alloc (.cells #[.int .i64 b.kind, .string b.name, .string b.value, .int .i64 b.n] 31) = W := ⟨_, rfl⟩
  obtain ⟨W2, hW2⟩ : ∃ W, WB.alloc ZE = W := ⟨_, rfl⟩
  have bA : Below w.heap.size w WA := by rw [← hWA]; exact en_alloc (Below.refl _ w) _
  have bB : Below WA.heap.size WA WB := by rw [← hWB]; exact en_alloc (Below.refl _ WA) _
  have b2 : Below WB.heap.size WB W2 := by rw [← hW2]; exact en_alloc (Below.refl _ WB) _
  have aA : AcAt WA w.heap.size a := by rw [← hWA]; exact heap_alloc_new w _
  have aB : AcAt WB WA.heap.size b := by rw [← hWB]; exact heap_alloc_new WA _
  have HA := Lib.hid (And.intro ((aA.below bB).below b2) (And.intro (aB.below b2) (en_trans (en_trans bA bB) b2)))
  have HV := Lib.hid (show Vr W2 WB.heap.size ⟨[], [], []⟩ by rw [← hW2]; exact Vr.zero (Blk.new rfl))
  obtain ⟨XA, hXA⟩ : ∃ X, w.heap.size = X := ⟨_, rfl⟩
  obtain ⟨XB, hXB⟩ : ∃ X, WA.heap.size = X := ⟨_, rfl⟩
  obtain ⟨X7, hX7⟩ : ∃ X, WB.heap.size = X := ⟨_, rfl⟩
  have HX := Lib.hid (show w.heap.size ≤ XA ∧ XA < XB ∧ XB < X7 by rw [← hXA, ← hXB, ← hX7]; exact ⟨Nat.le_refl _, aA.lt, aB.lt⟩)
  have e1 : XA + 1 = XB := by rw [← hXA, ← hXB, ← hWA]; simp
  have e2 : XB + 1 = X7 := by rw [← hXB, ← hX7, ← hWB]; simp
  rw [hX7] at HV
  have HA' := Lib.hid (show AcAt W2 XA a ∧ AcAt W2 XB b ∧ Below w.heap.size w W2 by rw [← hXA, ← hXB]; exact HA.out)
  have HL := Lib.hid hl
  have HF0 := Lib.hid (show Fine ⟨[], [], []⟩ 0 from ⟨ord_nil, ord_nil, by simp, by simp, by simp⟩)
  obtain ⟨NL, hNL⟩ : ∃ N, l.length = N := ⟨_, rfl⟩
  have HNL := Lib.hid hNL
  rw [hNL] at hn
  rw [hNL]
  have g1 : decide ((20 : Int) < (NL : Int)) = false := decide_eq_false (by omega)
  have HW := Lib.hid (show (((w.alloc (.cells #[.int .i64 a.kind, .string a.name, .string a.value, .int .i64 a.n] 31)).alloc (.cells #[.int .i64 b.kind, .string b.name, .string b.value, .int .i64 b.n] 31)).alloc (.cells #[.slice none 0 0, .slice none 0 0, .slice none 0 0] 26)) = W2 by rw [hWA, hWB]; exact hW2)
  have HPX := Lib.hid (show w.heap.size = XA ∧ w.heap.size + 1 = XB ∧ w.heap.size + 1 + 1 = X7 by rw [hXA, e1, e2]; exact ⟨rfl, rfl, rfl⟩)
  clear hWA hWB hW2 bA bB b2 aA aB HA hXA hXB hX7 e1 e2 hl hNL
  go_enter Try.func4, Try.ntmps4
  go_upto_region 4 with fail
  rw [HW.out]
  obtain ⟨ex1, ex2, ex3⟩ := HPX.out
  rw [ex3, ex2, ex1]
  clear ex1 ex2 ex3 HW HPX g1
  go_wp2_with fail
  go_loopw [8] (fun v wr => ∃ (k : Nat) (E : Ev), v = .int .i64 (k : Int) ∧ k ≤ NL ∧ Fine E k ∧ E.args = [] ∧ Vr wr X7 E ∧ AcAt wr XA a ∧ AcAt wr XB b ∧ Below w.heap.size w wr) (fun v _ => NL - (intOf v).toNat)
  case atStart => exact ⟨0, ⟨[], [], []⟩, rfl, by omega, HF0.out, rfl, HV.out, HA'.out.1, HA'.out.2.1, HA'.out.2.2⟩
  case round =>
    obtain ⟨k, E, rfl, hk, hfi, hea, hv, haa, hab, hbw⟩ := hrel
    have FI := Lib.hid hfi
    have EA := Lib.hid hea
    have VX := Lib.hid hv
    have AA := Lib.hid haa
    have AB := Lib.hid hab
    have BW := Lib.hid hbw
    have hk0 : (0 : Int) ≤ (k : Int) := by omega
    have hk9 : (k : Int) ≤ 20 := by omega
    have hfit := hfi.fit (show k ≤ 100 by omega)
    clear hfi hea hv haa hab hbw HF0 HV HA'
    by_cases hlt : k < NL
    · obtain ⟨x, hx⟩ : ∃ x, l[k]? = some x := ⟨_, List.getElem?_eq_getElem (by rw [HNL.out]; omega)⟩
      obtain ⟨b0, o0, rfl, hcc⟩ := HL.out.get hx
      have hbl := World.block_lt_of_cell? w _ (hcc k x hx 0 _ rfl)
      have hI : (k : Int) < (NL : Int) := by omega
      obtain ⟨x1, m1, d1, x2, m2, d2, x3, m3, d3, ⟨k0, k1, k2⟩, -, ex⟩ := VX.out.cells
      have r1 := (World.cell?_of_block (BW.out.block b0 hbl)).trans (hcc k x hx 1 _ rfl)
      have r2 := (World.cell?_of_block (BW.out.block b0 hbl)).trans (hcc k x hx 2 _ rfl)
      have r3 := (World.cell?_of_block (BW.out.block b0 hbl)).trans (hcc k x hx 3 _ rfl)
      have hbr : b0 < wr.heap.size := Nat.lt_of_lt_of_le hbl BW.out.size
      have HS := Lib.hid (fun (W : World) (hW : Below wr.heap.size wr W) => (show (fun V => (V.cell? ⟨X7, 0, none⟩ = some (.slice x1 m1 d1) ∧ V.cell? ⟨X7, 1, none⟩ = some (.slice x2 m2 d2) ∧ V.cell? ⟨X7, 2, none⟩ = some (.slice x3 m3 d3)) ∧ V.cell? ⟨b0, o0 + k * 4 + 1, none⟩ = some (.string x.name) ∧ V.cell? ⟨b0, o0 + k * 4 + 2, none⟩ = some (.string x.value) ∧ V.cell? ⟨b0, o0 + k * 4 + 3, none⟩ = some (.int .i64 x.n)) W from ⟨⟨(hW.cell (p := ⟨X7, 0, none⟩) VX.out.lt).trans k0, (hW.cell (p := ⟨X7, 1, none⟩) VX.out.lt).trans k1, (hW.cell (p := ⟨X7, 2, none⟩) VX.out.lt).trans k2⟩, (World.cell?_of_block (hW.block b0 hbr)).trans r1, (World.cell?_of_block (hW.block b0 hbr)).trans r2, (World.cell?_of_block (hW.block b0 hbr)).trans r3⟩))
      have HC1 := Lib.hid (set_any x.name x.value _ wr.drew (ex.below (Below.refl _ wr).drew (Nat.le_refl _)) hfit FI.out.vars)
      have hfit2 : Fit { E with vars := setM E.vars x.name x.value } := ⟨by have := set_len E.vars x.name x.value; have := FI.out.lv; dsimp only; omega, hfit.2.1, hfit.2.2⟩
      have HC2 := Lib.hid (fun (W : World) (v : Value) (h : EnvAt W v { E with vars := setM E.vars x.name x.value }) => define_any x.name x.n v W h hfit2 FI.out.funs)
      clear hcc hbl hx k0 k1 k2 r1 r2 r3 hbr ex hfit hfit2
      go_upto_region 7 with fail
      refine regionL (S := fun V => (V.cell? ⟨X7, 0, none⟩ = some (.slice x1 m1 d1) ∧ V.cell? ⟨X7, 1, none⟩ = some (.slice x2 m2 d2) ∧ V.cell? ⟨X7, 2, none⟩ = some (.slice x3 m3 d3)) ∧ V.cell? ⟨b0, o0 + k * 4 + 1, none⟩ = some (.string x.name) ∧ V.cell? ⟨b0, o0 + k * 4 + 2, none⟩ = some (.string x.value) ∧ V.cell? ⟨b0, o0 + k * 4 + 3, none⟩ = some (.int .i64 x.n)) (L := 23) (by kernel_rfl) ?_ (fun hHeld => ?_)
      · exact HS.out wr.drew (Below.refl _ _).drew
      refine takeL (i := 0) (k := 26) (v := ?_) rfl (by kernel_rfl) (by kernel_rfl) (by kernel_rfl) (by kernel_rfl) (fun _ _ _ h => h) (by kernel_rfl) (by kernel_rfl) (by kernel_rfl) (by rfl) ?_ (by assumption) ?_
      rotate_left
      · intro w hSw; (try dsimp only at hSw); go_simp <;> (with_reducible rfl)
      simp only [List.setIfInBounds_toArray, List.set_cons_zero, List.set_cons_succ]
      refine takeL (i := 1) (k := 27) (v := ?_) rfl (by kernel_rfl) (by kernel_rfl) (by kernel_rfl) (by kernel_rfl) (fun _ _ _ h => h) (by kernel_rfl) (by kernel_rfl) (by kernel_rfl) (by rfl) ?_ (by assumption) ?_
      rotate_left
      · intro w hSw; (try dsimp only at hSw); go_simp <;> (with_reducible rfl)
      simp only [List.setIfInBounds_toArray, List.set_cons_zero, List.set_cons_succ]
      refine takeL (i := 2) (k := 28) (v := ?_) rfl (by kernel_rfl) (by kernel_rfl) (by kernel_rfl) (by kernel_rfl) (fun _ _ _ h => h) (by kernel_rfl) (by kernel_rfl) (by kernel_rfl) (by rfl) ?_ (by assumption) ?_
      rotate_left
      · intro w hSw; (try dsimp only at hSw); go_simp <;> (with_reducible rfl)
      simp only [List.setIfInBounds_toArray, List.set_cons_zero, List.set_cons_succ]
      refine takeL (i := 3) (k := 29) (v := ?_) rfl (by kernel_rfl) (by kernel_rfl) (by kernel_rfl) (by kernel_rfl) (fun _ _ _ h => h) (by kernel_rfl) (by kernel_rfl) (by kernel_rfl) (by rfl) ?_ (by assumption) ?_
      rotate_left
      · intro w hSw; (try dsimp only at hSw); go_simp <;> (with_reducible rfl)
      simp only [List.setIfInBounds_toArray, List.set_cons_zero, List.set_cons_succ]
      refine takeL (i := 4) (k := 30) (v := ?_) rfl (by kernel_rfl) (by kernel_rfl) (by kernel_rfl) (by kernel_rfl) (fun _ _ _ h => h) (by kernel_rfl) (by kernel_rfl) (by kernel_rfl) (by rfl) ?_ (by assumption) ?_
      rotate_left
      · intro w hSw; (try dsimp only at hSw); go_simp <;> (with_reducible rfl)
      simp only [List.setIfInBounds_toArray, List.set_cons_zero, List.set_cons_succ]
      refine takeL (i := 5) (k := 31) (v := ?_) rfl (by kernel_rfl) (by kernel_rfl) (by kernel_rfl) (by kernel_rfl) (fun _ _ _ h => h) (by kernel_rfl) (by kernel_rfl) (by kernel_rfl) (by rfl) ?_ (by assumption) ?_
      rotate_left
      · intro w hSw; (try dsimp only at hSw); go_simp <;> (with_reducible rfl)
      simp only [List.setIfInBounds_toArray, List.set_cons_zero, List.set_cons_succ]
      refine takeL (i := 6) (k := 32) (v := ?_) rfl (by kernel_rfl) (by kernel_rfl) (by kernel_rfl) (by kernel_rfl) (fun _ _ _ h => h) (by kernel_rfl) (by kernel_rfl) (by kernel_rfl) (by rfl) ?_ (by assumption) ?_
      rotate_left
      · intro w hSw; (try dsimp only at hSw); go_simp <;> (with_reducible rfl)
      simp only [List.setIfInBounds_toArray, List.set_cons_zero, List.set_cons_succ]
      refine takeL (i := 7) (k := 33) (v := ?_) rfl (by kernel_rfl) (by kernel_rfl) (by kernel_rfl) (by kernel_rfl) (fun _ _ _ h => h) (by kernel_rfl) (by kernel_rfl) (by kernel_rfl) (by rfl) ?_ (by assumption) ?_
      rotate_left
      · intro w hSw; (try dsimp only at hSw); go_simp <;> (with_reducible rfl)
      simp only [List.setIfInBounds_toArray, List.set_cons_zero, List.set_cons_succ]
      refine takeL (i := 8) (k := 34) (v := ?_) rfl (by kernel_rfl) (by kernel_rfl) (by kernel_rfl) (by kernel_rfl) (fun _ _ _ h => h) (by kernel_rfl) (by kernel_rfl) (by kernel_rfl) (by rfl) ?_ (by assumption) ?_
      rotate_left
      · intro w hSw; (try dsimp only at hSw); go_simp <;> (with_reducible rfl)
      simp only [List.setIfInBounds_toArray, List.set_cons_zero, List.set_cons_succ]
      refine takeL (i := 9) (k := 35) (v := ?_) rfl (by kernel_rfl) (by kernel_rfl) (by kernel_rfl) (by kernel_rfl) (fun _ _ _ h => h) (by kernel_rfl) (by kernel_rfl) (by kernel_rfl) (by rfl) ?_ (by assumption) ?_
      rotate_left
      · intro w hSw; (try dsimp only at hSw); go_simp <;> (with_reducible rfl)
      simp only [List.setIfInBounds_toArray, List.set_cons_zero, List.set_cons_succ]
      refine takeL (i := 10) (k := 36) (v := ?_) rfl (by kernel_rfl) (by kernel_rfl) (by kernel_rfl) (by kernel_rfl) (fun _ _ _ h => h) (by kernel_rfl) (by kernel_rfl) (by kernel_rfl) (by rfl) ?_ (by assumption) ?_
      rotate_left
      · intro w hSw; (try dsimp only at hSw); go_simp <;> (with_reducible rfl)
      simp only [List.setIfInBounds_toArray, List.set_cons_zero, List.set_cons_succ]
      refine takeL (i := 12) (k := 38) (v := ?_) rfl (by kernel_rfl) (by kernel_rfl) (by kernel_rfl) (by kernel_rfl) (fun _ _ _ h => h) (by kernel_rfl) (by kernel_rfl) (by kernel_rfl) (by rfl) ?_ (by assumption) ?_
      rotate_left
      · intro w hSw; (try dsimp only at hSw); go_simp <;> (with_reducible rfl)
      simp only [List.setIfInBounds_toArray, List.set_cons_zero, List.set_cons_succ]
      refine takeL (i := 13) (k := 39) (v := ?_) rfl (by kernel_rfl) (by kernel_rfl) (by kernel_rfl) (by kernel_rfl) (fun _ _ _ h => h) (by kernel_rfl) (by kernel_rfl) (by kernel_rfl) (by rfl) ?_ (by assumption) ?_
      rotate_left
      · intro w hSw; (try dsimp only at hSw); go_simp <;> (with_reducible rfl)
      simp only [List.setIfInBounds_toArray, List.set_cons_zero, List.set_cons_succ]
      refine takeL (i := 14) (k := 40) (v := ?_) rfl (by kernel_rfl) (by kernel_rfl) (by kernel_rfl) (by kernel_rfl) (fun _ _ _ h => h) (by kernel_rfl) (by kernel_rfl) (by kernel_rfl) (by rfl) ?_ (by assumption) ?_
      rotate_left
      · intro w hSw; (try dsimp only at hSw); go_simp <;> (with_reducible rfl)
      simp only [List.setIfInBounds_toArray, List.set_cons_zero, List.set_cons_succ]
      refine takeL (i := 15) (k := 41) (v := ?_) rfl (by kernel_rfl) (by kernel_rfl) (by kernel_rfl) (by kernel_rfl) (fun _ _ _ h => h) (by kernel_rfl) (by kernel_rfl) (by kernel_rfl) (by rfl) ?_ (by assumption) ?_
      rotate_left
      · intro w hSw; (try dsimp only at hSw); go_simp <;> (with_reducible rfl)
      simp only [List.setIfInBounds_toArray, List.set_cons_zero, List.set_cons_succ]
      refine takeL (i := 16) (k := 42) (v := ?_) rfl (by kernel_rfl) (by kernel_rfl) (by kernel_rfl) (by kernel_rfl) (fun _ _ _ h => h) (by kernel_rfl) (by kernel_rfl) (by kernel_rfl) (by rfl) ?_ (by assumption) ?_
      rotate_left
      · intro w hSw; (try dsimp only at hSw); go_simp <;> (with_reducible rfl)
      simp only [List.setIfInBounds_toArray, List.set_cons_zero, List.set_cons_succ]
      refine takeL (i := 17) (k := 43) (v := ?_) rfl (by kernel_rfl) (by kernel_rfl) (by kernel_rfl) (by kernel_rfl) (fun _ _ _ h => h) (by kernel_rfl) (by kernel_rfl) (by kernel_rfl) (by rfl) ?_ (by assumption) ?_
      rotate_left
      · intro w hSw; (try dsimp only at hSw); go_simp <;> (with_reducible rfl)
      simp only [List.setIfInBounds_toArray, List.set_cons_zero, List.set_cons_succ]
      refine takeL (i := 18) (k := 44) (v := ?_) rfl (by kernel_rfl) (by kernel_rfl) (by kernel_rfl) (by kernel_rfl) (fun _ _ _ h => h) (by kernel_rfl) (by kernel_rfl) (by kernel_rfl) (by rfl) ?_ (by assumption) ?_
      rotate_left
      · intro w hSw; (try dsimp only at hSw); go_simp <;> (with_reducible rfl)
      simp only [List.setIfInBounds_toArray, List.set_cons_zero, List.set_cons_succ]
      refine takeL (i := 19) (k := 45) (v := ?_) rfl (by kernel_rfl) (by kernel_rfl) (by kernel_rfl) (by kernel_rfl) (fun _ _ _ h => h) (by kernel_rfl) (by kernel_rfl) (by kernel_rfl) (by rfl) ?_ (by assumption) ?_
      rotate_left
      · intro w hSw; (try dsimp only at hSw); go_simp <;> (with_reducible rfl)
      simp only [List.setIfInBounds_toArray, List.set_cons_zero, List.set_cons_succ]
      refine takeL (i := 20) (k := 46) (v := ?_) rfl (by kernel_rfl) (by kernel_rfl) (by kernel_rfl) (by kernel_rfl) (fun _ _ _ h => h) (by kernel_rfl) (by kernel_rfl) (by kernel_rfl) (by rfl) ?_ (by assumption) ?_
      rotate_left
      · intro w hSw; (try dsimp only at hSw); go_simp <;> (with_reducible rfl)
      simp only [List.setIfInBounds_toArray, List.set_cons_zero, List.set_cons_succ]
      refine takeL (i := 21) (k := 47) (v := ?_) rfl (by kernel_rfl) (by kernel_rfl) (by kernel_rfl) (by kernel_rfl) (fun _ _ _ h => h) (by kernel_rfl) (by kernel_rfl) (by kernel_rfl) (by rfl) ?_ (by assumption) ?_
      rotate_left
      · intro w hSw; (try dsimp only at hSw); go_simp <;> (with_reducible rfl)
      simp only [List.setIfInBounds_toArray, List.set_cons_zero, List.set_cons_succ]
      clear hHeld
      refine nextL (i := 11) (by kernel_rfl) rfl (by kernel_rfl) (fun K hK => ?_)
      go_simp
      go_wp2_with (go_at_call 9; (refine HC1.out.mono ?_); rintro e w5 ⟨v5, rfl, he, hb⟩; obtain ⟨g1, s1, h1, g2, s2, h2, g3, s3, h3, rfl⟩ := he.bare; have E5 := Lib.hid he; have B5 := Lib.hid (show Below wr.heap.size wr w5 from (Below.refl _ wr).drew.trans hb); clear he hb HC1)
      refine hK.out _ _ ?_ ?_
      · exact .inr (HS.out _ B5.out)
      clear hK K
      refine nextL (i := 22) (by kernel_rfl) rfl (by kernel_rfl) (fun K hK => ?_)
      go_simp
      go_wp2_with (go_at_call 13; (refine (HC2.out w5 _ E5.out).mono ?_); rintro e w6 ⟨v6, rfl, he, hb⟩; obtain ⟨j1, t1, l1, j2, t2, l2, j3, t3, l3, rfl⟩ := he.bare; have E6 := Lib.hid he; have B6 := Lib.hid (en_trans B5.out hb); clear he hb HC2)
      refine hK.out _ _ ?_ ?_
      · exact .inr (HS.out _ B6.out)
      clear hK K
      have VX6 := Lib.hid (VX.out.below B6.out)
      obtain ⟨_, _, _, _, _, _, _, _, _, ⟨c0, c1, c2⟩, ⟨z0, z1, z2⟩, -⟩ := VX6.out.cells
      refine nextL (i := 23) (by kernel_rfl) rfl (by kernel_rfl) (fun K hK => ?_)
      go_simp
      refine hK.out _ _ ?_ ?_
      · exact .inl (by kernel_rfl)
      clear hK K
      refine doneL (by kernel_rfl) ?_ _
      have U7 := Lib.hid (And.intro (VX6.out.put E6.out) (And.intro ((AA.out.below B6.out).far (Nat.ne_of_lt (Nat.lt_trans HX.out.2.1 HX.out.2.2)) (.slice j1 t1 l1) (.slice j2 t2 l2) (.slice j3 t3 l3)) (And.intro ((AB.out.below B6.out).far (Nat.ne_of_lt HX.out.2.2) (.slice j1 t1 l1) (.slice j2 t2 l2) (.slice j3 t3 l3)) (env_set (BW.out.trans (B6.out.mono BW.out.size)) (show w.heap.size ≤ X7 by have := HX.out; omega) (.slice j1 t1 l1) (.slice j2 t2 l2) (.slice j3 t3 l3)))))
      go_wp2_with fail
      go_roundw
      case rel => exact ⟨k + 1, ownM E x, by go_num, by omega, FI.out.own x, EA.out, U7.out.1, U7.out.2.1, U7.out.2.2.1, U7.out.2.2.2⟩
      case measure => simp [intOf]; omega
    · obtain rfl : k = NL := by omega
      have hI : ¬ ((k : Int) < (k : Int)) := by omega
      obtain ⟨x1, m1, d1, x2, m2, d2, x3, m3, d3, ⟨k0, k1, k2⟩, -, ex⟩ := VX.out.cells
      have HSX := Lib.hid (fun (W : World) (hW : Below wr.heap.size wr W) => (show (fun V => V.cell? ⟨X7, 0, none⟩ = some (.slice x1 m1 d1) ∧ V.cell? ⟨X7, 2, none⟩ = some (.slice x3 m3 d3)) W from ⟨(hW.cell (p := ⟨X7, 0, none⟩) VX.out.lt).trans k0, (hW.cell (p := ⟨X7, 2, none⟩) VX.out.lt).trans k2⟩))
      obtain ⟨_, _, _, hag, rv, -, rf⟩ := ex
      simp only [Value.agg.injEq, Array.mk.injEq, List.cons.injEq, and_true] at hag
      obtain ⟨rfl, rfl, rfl⟩ := hag
      have HRV := Lib.hid (fun (W : World) (hW : Below wr.heap.size wr W) => rv.below hW (Nat.le_refl _))
      have HRF := Lib.hid (fun (W : World) (hW : Below wr.heap.size wr W) => rf.below hW (Nat.le_refl _))
      have HLV := Lib.hid (And.intro FI.out.lv (And.intro FI.out.lf hn))
      obtain ⟨i0, hi, hz0, hz1, hz2⟩ := info_parts infoV
      have HI := Lib.hid (And.intro hi (And.intro hz0 (And.intro hz1 hz2)))
      clear hi hz0 hz1 hz2
      obtain ⟨j0, hi, hz0, hz1, hz2⟩ := info_parts infoF
      have HJ := Lib.hid (And.intro hi (And.intro hz0 (And.intro hz1 hz2)))
      clear hi hz0 hz1 hz2 k0 k1 k2 rv rf hfit hlt hk hn
      go_upto_region 8 with fail
      clear hI
      go_cut [9] from 49 to 57 (fun v9 wx => ∃ g, v9 = .pointer (some ⟨g, 0, none⟩) ∧ Vr wx g E ∧ Below wr.heap.size wr wx)
      case first =>
        refine regionL (S := fun V => V.cell? ⟨X7, 0, none⟩ = some (.slice x1 m1 d1) ∧ V.cell? ⟨X7, 2, none⟩ = some (.slice x3 m3 d3)) (L := 10) (by kernel_rfl) ?_ (fun hHeld => ?_)
        · exact HSX.out wr.drew (Below.refl _ _).drew
        refine takeL (i := 1) (k := 50) (v := ?_) rfl (by kernel_rfl) (by kernel_rfl) (by kernel_rfl) (by kernel_rfl) (fun _ _ _ h => h) (by kernel_rfl) (by kernel_rfl) (by kernel_rfl) (by rfl) ?_ (by assumption) ?_
        rotate_left
        · intro w hSw; (try dsimp only at hSw); go_simp <;> (with_reducible rfl)
        simp only [List.setIfInBounds_toArray, List.set_cons_zero, List.set_cons_succ]
        refine takeL (i := 2) (k := 51) (v := ?_) rfl (by kernel_rfl) (by kernel_rfl) (by kernel_rfl) (by kernel_rfl) (fun _ _ _ h => h) (by kernel_rfl) (by kernel_rfl) (by kernel_rfl) (by rfl) ?_ (by assumption) ?_
        rotate_left
        · intro w hSw; (try dsimp only at hSw); go_simp <;> (with_reducible rfl)
        simp only [List.setIfInBounds_toArray, List.set_cons_zero, List.set_cons_succ]
        refine takeL (i := 5) (k := 54) (v := ?_) rfl (by kernel_rfl) (by kernel_rfl) (by kernel_rfl) (by kernel_rfl) (fun _ _ _ h => h) (by kernel_rfl) (by kernel_rfl) (by kernel_rfl) (by rfl) ?_ (by assumption) ?_
        rotate_left
        · intro w hSw; (try dsimp only at hSw); go_simp <;> (with_reducible rfl)
        simp only [List.setIfInBounds_toArray, List.set_cons_zero, List.set_cons_succ]
        refine takeL (i := 6) (k := 55) (v := ?_) rfl (by kernel_rfl) (by kernel_rfl) (by kernel_rfl) (by kernel_rfl) (fun _ _ _ h => h) (by kernel_rfl) (by kernel_rfl) (by kernel_rfl) (by rfl) ?_ (by assumption) ?_
        rotate_left
        · intro w hSw; (try dsimp only at hSw); go_simp <;> (with_reducible rfl)
        simp only [List.setIfInBounds_toArray, List.set_cons_zero, List.set_cons_succ]
        clear hHeld
        refine threeL (i := 0) (j := 4) (k := 9) (by kernel_rfl) rfl rfl rfl (by kernel_rfl) (by kernel_rfl) (by kernel_rfl) (fun K hK => ?_) (fun K hK => ?_) (fun K hK => ?_)
        · go_simp
          refine hK.out _ _ ?_ ?_
          · exact .inr (HSX.out _ (en_alloc (Below.refl _ _) _).drew)
          clear hK K
          obtain ⟨u1w, hu1w⟩ : ∃ W, (wr.alloc (.cells #[] 44)).drew = W := ⟨_, rfl⟩
          rw [hu1w]
          have e0_u1w := Lib.hid (show Blk u1w wr.heap.size (.cells #[] 44) by rw [← hu1w]; exact Blk.new rfl)
          have Belu1w := Lib.hid (show Below wr.heap.size wr u1w by rw [← hu1w]; exact (en_alloc (Below.refl _ _) _).drew)
          clear hu1w
          refine threeL (i := 3) (j := 4) (k := 9) (by kernel_rfl) rfl rfl rfl (by kernel_rfl) (by kernel_rfl) (by kernel_rfl) (fun K hK => ?_) (fun K hK => ?_) (fun K hK => ?_)
          · refine wp_append_rd u1w (.tmp 49) (.tmp 51) 22 rfl 44 i0 _ 32 Try.underlying22 HI.out.1 HI.out.2.1 HI.out.2.2.1 HI.out.2.2.2 rfl bE wr.heap.size (.slice (some ⟨wr.heap.size, 0, none⟩) 0 0) [] E.vars rfl (e0_u1w.out.own0 (sz := 2) (Nat.le_refl _)) _ rfl (HRV.out u1w Belu1w.out) (by have := HLV.out.1; have := HLV.out.2.2; simp; omega) (by have := HLV.out.1; have := HLV.out.2.2; unfold maxLen; simp; omega) Belu1w.out.size E.vars (by simp) ?_
            intro q5 q5d u2w hown hg
            have O3_u2w := Lib.hid hown
            have Belu2w := Lib.hid (show Below wr.heap.size wr u2w from Belu1w.out.grown hg Belu1w.out.size (fun k hk => ((e0_u1w.out.own0 (sz := 2) (Nat.le_refl _)).lt k hk).1))
            clear hown hg
            refine hK.out _ _ ?_ ?_
            · exact .inr (HSX.out _ Belu2w.out)
            clear hK K
            simp only [Act.put, List.getElem_toArray, List.getElem_cons_succ, List.getElem_cons_zero, List.setIfInBounds_toArray, List.set_cons_zero, List.set_cons_succ]
            refine twoL (i := 4) (j := 9) (by kernel_rfl) rfl rfl (by kernel_rfl) (by kernel_rfl) (fun K hK => ?_) (fun K hK => ?_)
            · go_simp
              refine hK.out _ _ ?_ ?_
              · exact .inr (HSX.out _ (en_alloc Belu2w.out _))
              clear hK K
              obtain ⟨u3w, hu3w⟩ : ∃ W, u2w.alloc (.cells #[] 47) = W := ⟨_, rfl⟩
              rw [hu3w]
              have e4_u3w := Lib.hid (show Blk u3w u2w.heap.size (.cells #[] 47) by rw [← hu3w]; exact Blk.new rfl)
              have Belu3w := Lib.hid (show Below wr.heap.size wr u3w by rw [← hu3w]; exact (en_alloc Belu2w.out _))
              have O3_u3w := Lib.hid (show u3w.ownsRow wr.heap.size 44 2 (.slice q5 E.vars.length q5d) E.vars.length (E.vars.flatMap bC) by rw [← hu3w]; exact O3_u2w.out.alloc _)
              clear hu3w
              refine twoL (i := 7) (j := 9) (by kernel_rfl) rfl rfl (by kernel_rfl) (by kernel_rfl) (fun K hK => ?_) (fun K hK => ?_)
              · refine wp_append_rd u3w (.tmp 53) (.tmp 55) 24 rfl 47 j0 _ 24 Try.underlying24 HJ.out.1 HJ.out.2.1 HJ.out.2.2.1 HJ.out.2.2.2 rfl fE wr.heap.size (.slice (some ⟨u2w.heap.size, 0, none⟩) 0 0) [] E.funs rfl (e4_u3w.out.own0 (sz := 2) Belu2w.out.size) _ rfl (HRF.out u3w Belu3w.out) (by have := HLV.out.2.1; have := HLV.out.2.2; simp; omega) (by have := HLV.out.2.1; have := HLV.out.2.2; unfold maxLen; simp; omega) Belu3w.out.size E.funs (by simp) ?_
                intro q7 q7d u4w hown hg
                have O7_u4w := Lib.hid hown
                have Belu4w := Lib.hid (show Below wr.heap.size wr u4w from Belu3w.out.grown hg Belu3w.out.size (fun k hk => ((e4_u3w.out.own0 (sz := 2) Belu2w.out.size).lt k hk).1))
                have O3_u4w := Lib.hid (show u4w.ownsRow wr.heap.size 44 2 (.slice q5 E.vars.length q5d) E.vars.length (E.vars.flatMap bC) from World.ownsRow.kept O3_u3w.out hg (.inr (own_apart O3_u3w.out e4_u3w.out (by decide))))
                clear hown hg
                refine hK.out _ _ ?_ ?_
                · exact .inr (HSX.out _ Belu4w.out)
                clear hK K
                simp only [Act.put, List.getElem_toArray, List.getElem_cons_succ, List.getElem_cons_zero, List.setIfInBounds_toArray, List.set_cons_zero, List.set_cons_succ]
                refine takeL (i := 8) (k := 57) (v := ?_) rfl (by kernel_rfl) (by kernel_rfl) (by kernel_rfl) (by kernel_rfl) (fun _ _ _ h => h) (by kernel_rfl) (by kernel_rfl) (by kernel_rfl) (by rfl) ?_ (HSX.out _ Belu4w.out) ?_
                rotate_left
                · intro w hSw; (try dsimp only at hSw); go_simp <;> (with_reducible rfl)
                simp only [List.setIfInBounds_toArray, List.set_cons_zero, List.set_cons_succ]
                refine nextL (i := 9) (by kernel_rfl) rfl (by kernel_rfl) (fun K hK => ?_)
                go_simp
                refine hK.out _ _ ?_ ?_
                · exact .inr (HSX.out _ (en_alloc Belu4w.out _))
                clear hK K
                obtain ⟨u5w, hu5w⟩ : ∃ W, u4w.alloc (.cells #[.slice none 0 0, .slice none 0 0, .slice none 0 0] 26) = W := ⟨_, rfl⟩
                rw [hu5w]
                have z9_u5w := Lib.hid (show Blk u5w u4w.heap.size (.cells #[.slice none 0 0, .slice none 0 0, .slice none 0 0] 26) by rw [← hu5w]; exact Blk.new rfl)
                have Belu5w := Lib.hid (show Below wr.heap.size wr u5w by rw [← hu5w]; exact (en_alloc Belu4w.out _))
                have O3_u5w := Lib.hid (show u5w.ownsRow wr.heap.size 44 2 (.slice q5 E.vars.length q5d) E.vars.length (E.vars.flatMap bC) by rw [← hu5w]; exact O3_u4w.out.alloc _)
                have O7_u5w := Lib.hid (show u5w.ownsRow wr.heap.size 47 2 (.slice q7 E.funs.length q7d) E.funs.length (E.funs.flatMap fC) by rw [← hu5w]; exact O7_u4w.out.alloc _)
                clear hu5w
                have c0 := cell_of_row u5w _ 0 _ _ _ z9_u5w.out
                have c1 := cell_of_row u5w _ 1 _ _ _ z9_u5w.out
                have c2 := cell_of_row u5w _ 2 _ _ _ z9_u5w.out
                have y0 := frozen_of_row u5w _ 0 _ _ z9_u5w.out
                have y1 := frozen_of_row u5w _ 1 _ _ z9_u5w.out
                have y2 := frozen_of_row u5w _ 2 _ _ z9_u5w.out
                refine nextL (i := 10) (by kernel_rfl) rfl (by kernel_rfl) (fun K hK => ?_)
                go_simp
                refine hK.out _ _ ?_ ?_
                · exact .inl (by kernel_rfl)
                clear hK K
                refine doneL (by kernel_rfl) ?_ _
                have HE := Lib.hid (show EnvAt u5w (.agg #[.slice q5 E.vars.length q5d, .slice none 0 0, .slice q7 E.funs.length q7d]) E from ⟨_, _, _, rfl, Rd.of_own bE O3_u5w.out, (by rw [EA.out]; exact Rd.nil _ _ _), Rd.of_own fE O7_u5w.out⟩)
                have HV9 := Lib.hid ((Vr.zero z9_u5w.out).put HE.out)
                have HB9 := Lib.hid (env_set Belu5w.out (show wr.heap.size ≤ u4w.heap.size from Belu4w.out.size) (.slice q5 E.vars.length q5d) (.slice none 0 0) (.slice q7 E.funs.length q7d))
                go_wp2_with fail
                go_meet
                case rel => exact ⟨u4w.heap.size, rfl, HV9.out, HB9.out⟩
              · go_simp
                refine hK.out _ _ ?_ ?_
                · exact .inr (HSX.out _ (en_alloc Belu3w.out _))
                clear hK K
                obtain ⟨u6w, hu6w⟩ : ∃ W, u3w.alloc (.cells #[.slice none 0 0, .slice none 0 0, .slice none 0 0] 26) = W := ⟨_, rfl⟩
                rw [hu6w]
                have z9_u6w := Lib.hid (show Blk u6w u3w.heap.size (.cells #[.slice none 0 0, .slice none 0 0, .slice none 0 0] 26) by rw [← hu6w]; exact Blk.new rfl)
                have Belu6w := Lib.hid (show Below wr.heap.size wr u6w by rw [← hu6w]; exact (en_alloc Belu3w.out _))
                have e4_u6w := Lib.hid (show Blk u6w u2w.heap.size (.cells #[] 47) by rw [← hu6w]; exact e4_u3w.out.alloc _)
                have O3_u6w := Lib.hid (show u6w.ownsRow wr.heap.size 44 2 (.slice q5 E.vars.length q5d) E.vars.length (E.vars.flatMap bC) by rw [← hu6w]; exact O3_u3w.out.alloc _)
                clear hu6w
                refine nextL (i := 7) (by kernel_rfl) rfl (by kernel_rfl) (fun K hK => ?_)
                refine wp_append_rd u6w (.tmp 53) (.tmp 55) 24 rfl 47 j0 _ 24 Try.underlying24 HJ.out.1 HJ.out.2.1 HJ.out.2.2.1 HJ.out.2.2.2 rfl fE wr.heap.size (.slice (some ⟨u2w.heap.size, 0, none⟩) 0 0) [] E.funs rfl (e4_u6w.out.own0 (sz := 2) Belu2w.out.size) _ rfl (HRF.out u6w Belu6w.out) (by have := HLV.out.2.1; have := HLV.out.2.2; simp; omega) (by have := HLV.out.2.1; have := HLV.out.2.2; unfold maxLen; simp; omega) Belu6w.out.size E.funs (by simp) ?_
                intro q7 q7d u7w hown hg
                have O7_u7w := Lib.hid hown
                have Belu7w := Lib.hid (show Below wr.heap.size wr u7w from Belu6w.out.grown hg Belu6w.out.size (fun k hk => ((e4_u6w.out.own0 (sz := 2) Belu2w.out.size).lt k hk).1))
                have z9_u7w := Lib.hid (show Blk u7w u3w.heap.size (.cells #[.slice none 0 0, .slice none 0 0, .slice none 0 0] 26) from z9_u6w.out.grown hg (fun e => Blk.ne z9_u6w.out e4_u6w.out (by simp) (Option.some.inj e)))
                have O3_u7w := Lib.hid (show u7w.ownsRow wr.heap.size 44 2 (.slice q5 E.vars.length q5d) E.vars.length (E.vars.flatMap bC) from World.ownsRow.kept O3_u6w.out hg (.inr (own_apart O3_u6w.out e4_u6w.out (by decide))))
                clear hown hg
                refine hK.out _ _ ?_ ?_
                · exact .inr (HSX.out _ Belu7w.out)
                clear hK K
                simp only [Act.put, List.getElem_toArray, List.getElem_cons_succ, List.getElem_cons_zero, List.setIfInBounds_toArray, List.set_cons_zero, List.set_cons_succ]
                refine takeL (i := 8) (k := 57) (v := ?_) rfl (by kernel_rfl) (by kernel_rfl) (by kernel_rfl) (by kernel_rfl) (fun _ _ _ h => h) (by kernel_rfl) (by kernel_rfl) (by kernel_rfl) (by rfl) ?_ (HSX.out _ Belu7w.out) ?_
                rotate_left
                · intro w hSw; (try dsimp only at hSw); go_simp <;> (with_reducible rfl)
                simp only [List.setIfInBounds_toArray, List.set_cons_zero, List.set_cons_succ]
                have c0 := cell_of_row u7w _ 0 _ _ _ z9_u7w.out
                have c1 := cell_of_row u7w _ 1 _ _ _ z9_u7w.out
                have c2 := cell_of_row u7w _ 2 _ _ _ z9_u7w.out
                have y0 := frozen_of_row u7w _ 0 _ _ z9_u7w.out
                have y1 := frozen_of_row u7w _ 1 _ _ z9_u7w.out
                have y2 := frozen_of_row u7w _ 2 _ _ z9_u7w.out
                refine nextL (i := 10) (by kernel_rfl) rfl (by kernel_rfl) (fun K hK => ?_)
                go_simp
                refine hK.out _ _ ?_ ?_
                · exact .inl (by kernel_rfl)
                clear hK K
                refine doneL (by kernel_rfl) ?_ _
                have HE := Lib.hid (show EnvAt u7w (.agg #[.slice q5 E.vars.length q5d, .slice none 0 0, .slice q7 E.funs.length q7d]) E from ⟨_, _, _, rfl, Rd.of_own bE O3_u7w.out, (by rw [EA.out]; exact Rd.nil _ _ _), Rd.of_own fE O7_u7w.out⟩)
                have HV9 := Lib.hid ((Vr.zero z9_u7w.out).put HE.out)
                have HB9 := Lib.hid (env_set Belu7w.out (show wr.heap.size ≤ u3w.heap.size from Belu3w.out.size) (.slice q5 E.vars.length q5d) (.slice none 0 0) (.slice q7 E.funs.length q7d))
                go_wp2_with fail
                go_meet
                case rel => exact ⟨u3w.heap.size, rfl, HV9.out, HB9.out⟩
            · go_simp
              refine hK.out _ _ ?_ ?_
              · exact .inr (HSX.out _ (en_alloc Belu2w.out _))
              clear hK K
              obtain ⟨u8w, hu8w⟩ : ∃ W, u2w.alloc (.cells #[.slice none 0 0, .slice none 0 0, .slice none 0 0] 26) = W := ⟨_, rfl⟩
              rw [hu8w]
              have z9_u8w := Lib.hid (show Blk u8w u2w.heap.size (.cells #[.slice none 0 0, .slice none 0 0, .slice none 0 0] 26) by rw [← hu8w]; exact Blk.new rfl)
              have Belu8w := Lib.hid (show Below wr.heap.size wr u8w by rw [← hu8w]; exact (en_alloc Belu2w.out _))
              have O3_u8w := Lib.hid (show u8w.ownsRow wr.heap.size 44 2 (.slice q5 E.vars.length q5d) E.vars.length (E.vars.flatMap bC) by rw [← hu8w]; exact O3_u2w.out.alloc _)
              clear hu8w
              refine nextL (i := 4) (by kernel_rfl) rfl (by kernel_rfl) (fun K hK => ?_)
              go_simp
              refine hK.out _ _ ?_ ?_
              · exact .inr (HSX.out _ (en_alloc Belu8w.out _))
              clear hK K
              obtain ⟨u9w, hu9w⟩ : ∃ W, u8w.alloc (.cells #[] 47) = W := ⟨_, rfl⟩
              rw [hu9w]
              have e4_u9w := Lib.hid (show Blk u9w u8w.heap.size (.cells #[] 47) by rw [← hu9w]; exact Blk.new rfl)
              have Belu9w := Lib.hid (show Below wr.heap.size wr u9w by rw [← hu9w]; exact (en_alloc Belu8w.out _))
              have z9_u9w := Lib.hid (show Blk u9w u2w.heap.size (.cells #[.slice none 0 0, .slice none 0 0, .slice none 0 0] 26) by rw [← hu9w]; exact z9_u8w.out.alloc _)
              have O3_u9w := Lib.hid (show u9w.ownsRow wr.heap.size 44 2 (.slice q5 E.vars.length q5d) E.vars.length (E.vars.flatMap bC) by rw [← hu9w]; exact O3_u8w.out.alloc _)
              clear hu9w
              refine nextL (i := 7) (by kernel_rfl) rfl (by kernel_rfl) (fun K hK => ?_)
              refine wp_append_rd u9w (.tmp 53) (.tmp 55) 24 rfl 47 j0 _ 24 Try.underlying24 HJ.out.1 HJ.out.2.1 HJ.out.2.2.1 HJ.out.2.2.2 rfl fE wr.heap.size (.slice (some ⟨u8w.heap.size, 0, none⟩) 0 0) [] E.funs rfl (e4_u9w.out.own0 (sz := 2) Belu8w.out.size) _ rfl (HRF.out u9w Belu9w.out) (by have := HLV.out.2.1; have := HLV.out.2.2; simp; omega) (by have := HLV.out.2.1; have := HLV.out.2.2; unfold maxLen; simp; omega) Belu9w.out.size E.funs (by simp) ?_
              intro q7 q7d u10w hown hg
              have O7_u10w := Lib.hid hown
              have Belu10w := Lib.hid (show Below wr.heap.size wr u10w from Belu9w.out.grown hg Belu9w.out.size (fun k hk => ((e4_u9w.out.own0 (sz := 2) Belu8w.out.size).lt k hk).1))
              have z9_u10w := Lib.hid (show Blk u10w u2w.heap.size (.cells #[.slice none 0 0, .slice none 0 0, .slice none 0 0] 26) from z9_u9w.out.grown hg (fun e => Blk.ne z9_u9w.out e4_u9w.out (by simp) (Option.some.inj e)))
              have O3_u10w := Lib.hid (show u10w.ownsRow wr.heap.size 44 2 (.slice q5 E.vars.length q5d) E.vars.length (E.vars.flatMap bC) from World.ownsRow.kept O3_u9w.out hg (.inr (own_apart O3_u9w.out e4_u9w.out (by decide))))
              clear hown hg
              refine hK.out _ _ ?_ ?_
              · exact .inr (HSX.out _ Belu10w.out)
              clear hK K
              simp only [Act.put, List.getElem_toArray, List.getElem_cons_succ, List.getElem_cons_zero, List.setIfInBounds_toArray, List.set_cons_zero, List.set_cons_succ]
              refine takeL (i := 8) (k := 57) (v := ?_) rfl (by kernel_rfl) (by kernel_rfl) (by kernel_rfl) (by kernel_rfl) (fun _ _ _ h => h) (by kernel_rfl) (by kernel_rfl) (by kernel_rfl) (by rfl) ?_ (HSX.out _ Belu10w.out) ?_
              rotate_left
              · intro w hSw; (try dsimp only at hSw); go_simp <;> (with_reducible rfl)
              simp only [List.setIfInBounds_toArray, List.set_cons_zero, List.set_cons_succ]
              have c0 := cell_of_row u10w _ 0 _ _ _ z9_u10w.out
              have c1 := cell_of_row u10w _ 1 _ _ _ z9_u10w.out
              have c2 := cell_of_row u10w _ 2 _ _ _ z9_u10w.out
              have y0 := frozen_of_row u10w _ 0 _ _ z9_u10w.out
              have y1 := frozen_of_row u10w _ 1 _ _ z9_u10w.out
              have y2 := frozen_of_row u10w _ 2 _ _ z9_u10w.out
              refine nextL (i := 10) (by kernel_rfl) rfl (by kernel_rfl) (fun K hK => ?_)
              go_simp
              refine hK.out _ _ ?_ ?_
              · exact .inl (by kernel_rfl)
              clear hK K
              refine doneL (by kernel_rfl) ?_ _
              have HE := Lib.hid (show EnvAt u10w (.agg #[.slice q5 E.vars.length q5d, .slice none 0 0, .slice q7 E.funs.length q7d]) E from ⟨_, _, _, rfl, Rd.of_own bE O3_u10w.out, (by rw [EA.out]; exact Rd.nil _ _ _), Rd.of_own fE O7_u10w.out⟩)
              have HV9 := Lib.hid ((Vr.zero z9_u10w.out).put HE.out)
              have HB9 := Lib.hid (env_set Belu10w.out (show wr.heap.size ≤ u2w.heap.size from Belu2w.out.size) (.slice q5 E.vars.length q5d) (.slice none 0 0) (.slice q7 E.funs.length q7d))
              go_wp2_with fail
              go_meet
              case rel => exact ⟨u2w.heap.size, rfl, HV9.out, HB9.out⟩
          · go_simp
            refine hK.out _ _ ?_ ?_
            · exact .inr (HSX.out _ (en_alloc Belu1w.out _))
            clear hK K
            obtain ⟨u11w, hu11w⟩ : ∃ W, u1w.alloc (.cells #[] 47) = W := ⟨_, rfl⟩
            rw [hu11w]
            have e4_u11w := Lib.hid (show Blk u11w u1w.heap.size (.cells #[] 47) by rw [← hu11w]; exact Blk.new rfl)
            have Belu11w := Lib.hid (show Below wr.heap.size wr u11w by rw [← hu11w]; exact (en_alloc Belu1w.out _))
            have e0_u11w := Lib.hid (show Blk u11w wr.heap.size (.cells #[] 44) by rw [← hu11w]; exact e0_u1w.out.alloc _)
            clear hu11w
            refine twoL (i := 3) (j := 9) (by kernel_rfl) rfl rfl (by kernel_rfl) (by kernel_rfl) (fun K hK => ?_) (fun K hK => ?_)
            · refine wp_append_rd u11w (.tmp 49) (.tmp 51) 22 rfl 44 i0 _ 32 Try.underlying22 HI.out.1 HI.out.2.1 HI.out.2.2.1 HI.out.2.2.2 rfl bE wr.heap.size (.slice (some ⟨wr.heap.size, 0, none⟩) 0 0) [] E.vars rfl (e0_u11w.out.own0 (sz := 2) (Nat.le_refl _)) _ rfl (HRV.out u11w Belu11w.out) (by have := HLV.out.1; have := HLV.out.2.2; simp; omega) (by have := HLV.out.1; have := HLV.out.2.2; unfold maxLen; simp; omega) Belu11w.out.size E.vars (by simp) ?_
              intro q5 q5d u12w hown hg
              have O3_u12w := Lib.hid hown
              have Belu12w := Lib.hid (show Below wr.heap.size wr u12w from Belu11w.out.grown hg Belu11w.out.size (fun k hk => ((e0_u11w.out.own0 (sz := 2) (Nat.le_refl _)).lt k hk).1))
              have e4_u12w := Lib.hid (show Blk u12w u1w.heap.size (.cells #[] 47) from e4_u11w.out.grown hg (fun e => Blk.ne e4_u11w.out e0_u11w.out (by simp) (Option.some.inj e)))
              clear hown hg
              refine hK.out _ _ ?_ ?_
              · exact .inr (HSX.out _ Belu12w.out)
              clear hK K
              simp only [Act.put, List.getElem_toArray, List.getElem_cons_succ, List.getElem_cons_zero, List.setIfInBounds_toArray, List.set_cons_zero, List.set_cons_succ]
              refine twoL (i := 7) (j := 9) (by kernel_rfl) rfl rfl (by kernel_rfl) (by kernel_rfl) (fun K hK => ?_) (fun K hK => ?_)
              · refine wp_append_rd u12w (.tmp 53) (.tmp 55) 24 rfl 47 j0 _ 24 Try.underlying24 HJ.out.1 HJ.out.2.1 HJ.out.2.2.1 HJ.out.2.2.2 rfl fE wr.heap.size (.slice (some ⟨u1w.heap.size, 0, none⟩) 0 0) [] E.funs rfl (e4_u12w.out.own0 (sz := 2) Belu1w.out.size) _ rfl (HRF.out u12w Belu12w.out) (by have := HLV.out.2.1; have := HLV.out.2.2; simp; omega) (by have := HLV.out.2.1; have := HLV.out.2.2; unfold maxLen; simp; omega) Belu12w.out.size E.funs (by simp) ?_
                intro q7 q7d u13w hown hg
                have O7_u13w := Lib.hid hown
                have Belu13w := Lib.hid (show Below wr.heap.size wr u13w from Belu12w.out.grown hg Belu12w.out.size (fun k hk => ((e4_u12w.out.own0 (sz := 2) Belu1w.out.size).lt k hk).1))
                have O3_u13w := Lib.hid (show u13w.ownsRow wr.heap.size 44 2 (.slice q5 E.vars.length q5d) E.vars.length (E.vars.flatMap bC) from World.ownsRow.kept O3_u12w.out hg (.inr (own_apart O3_u12w.out e4_u12w.out (by decide))))
                clear hown hg
                refine hK.out _ _ ?_ ?_
                · exact .inr (HSX.out _ Belu13w.out)
                clear hK K
                simp only [Act.put, List.getElem_toArray, List.getElem_cons_succ, List.getElem_cons_zero, List.setIfInBounds_toArray, List.set_cons_zero, List.set_cons_succ]
                refine takeL (i := 8) (k := 57) (v := ?_) rfl (by kernel_rfl) (by kernel_rfl) (by kernel_rfl) (by kernel_rfl) (fun _ _ _ h => h) (by kernel_rfl) (by kernel_rfl) (by kernel_rfl) (by rfl) ?_ (HSX.out _ Belu13w.out) ?_
                rotate_left
                · intro w hSw; (try dsimp only at hSw); go_simp <;> (with_reducible rfl)
                simp only [List.setIfInBounds_toArray, List.set_cons_zero, List.set_cons_succ]
                refine nextL (i := 9) (by kernel_rfl) rfl (by kernel_rfl) (fun K hK => ?_)
                go_simp
                refine hK.out _ _ ?_ ?_
                · exact .inr (HSX.out _ (en_alloc Belu13w.out _))
                clear hK K
                obtain ⟨u14w, hu14w⟩ : ∃ W, u13w.alloc (.cells #[.slice none 0 0, .slice none 0 0, .slice none 0 0] 26) = W := ⟨_, rfl⟩
                rw [hu14w]
                have z9_u14w := Lib.hid (show Blk u14w u13w.heap.size (.cells #[.slice none 0 0, .slice none 0 0, .slice none 0 0] 26) by rw [← hu14w]; exact Blk.new rfl)
                have Belu14w := Lib.hid (show Below wr.heap.size wr u14w by rw [← hu14w]; exact (en_alloc Belu13w.out _))
                have O3_u14w := Lib.hid (show u14w.ownsRow wr.heap.size 44 2 (.slice q5 E.vars.length q5d) E.vars.length (E.vars.flatMap bC) by rw [← hu14w]; exact O3_u13w.out.alloc _)
                have O7_u14w := Lib.hid (show u14w.ownsRow wr.heap.size 47 2 (.slice q7 E.funs.length q7d) E.funs.length (E.funs.flatMap fC) by rw [← hu14w]; exact O7_u13w.out.alloc _)
                clear hu14w
                have c0 := cell_of_row u14w _ 0 _ _ _ z9_u14w.out
                have c1 := cell_of_row u14w _ 1 _ _ _ z9_u14w.out
                have c2 := cell_of_row u14w _ 2 _ _ _ z9_u14w.out
                have y0 := frozen_of_row u14w _ 0 _ _ z9_u14w.out
                have y1 := frozen_of_row u14w _ 1 _ _ z9_u14w.out
                have y2 := frozen_of_row u14w _ 2 _ _ z9_u14w.out
                refine nextL (i := 10) (by kernel_rfl) rfl (by kernel_rfl) (fun K hK => ?_)
                go_simp
                refine hK.out _ _ ?_ ?_
                · exact .inl (by kernel_rfl)
                clear hK K
                refine doneL (by kernel_rfl) ?_ _
                have HE := Lib.hid (show EnvAt u14w (.agg #[.slice q5 E.vars.length q5d, .slice none 0 0, .slice q7 E.funs.length q7d]) E from ⟨_, _, _, rfl, Rd.of_own bE O3_u14w.out, (by rw [EA.out]; exact Rd.nil _ _ _), Rd.of_own fE O7_u14w.out⟩)
                have HV9 := Lib.hid ((Vr.zero z9_u14w.out).put HE.out)
                have HB9 := Lib.hid (env_set Belu14w.out (show wr.heap.size ≤ u13w.heap.size from Belu13w.out.size) (.slice q5 E.vars.length q5d) (.slice none 0 0) (.slice q7 E.funs.length q7d))
                go_wp2_with fail
                go_meet
                case rel => exact ⟨u13w.heap.size, rfl, HV9.out, HB9.out⟩
              · go_simp
                refine hK.out _ _ ?_ ?_
                · exact .inr (HSX.out _ (en_alloc Belu12w.out _))
                clear hK K
                obtain ⟨u15w, hu15w⟩ : ∃ W, u12w.alloc (.cells #[.slice none 0 0, .slice none 0 0, .slice none 0 0] 26) = W := ⟨_, rfl⟩
                rw [hu15w]
                have z9_u15w := Lib.hid (show Blk u15w u12w.heap.size (.cells #[.slice none 0 0, .slice none 0 0, .slice none 0 0] 26) by rw [← hu15w]; exact Blk.new rfl)
                have Belu15w := Lib.hid (show Below wr.heap.size wr u15w by rw [← hu15w]; exact (en_alloc Belu12w.out _))
                have e4_u15w := Lib.hid (show Blk u15w u1w.heap.size (.cells #[] 47) by rw [← hu15w]; exact e4_u12w.out.alloc _)
                have O3_u15w := Lib.hid (show u15w.ownsRow wr.heap.size 44 2 (.slice q5 E.vars.length q5d) E.vars.length (E.vars.flatMap bC) by rw [← hu15w]; exact O3_u12w.out.alloc _)
                clear hu15w
                refine nextL (i := 7) (by kernel_rfl) rfl (by kernel_rfl) (fun K hK => ?_)
                refine wp_append_rd u15w (.tmp 53) (.tmp 55) 24 rfl 47 j0 _ 24 Try.underlying24 HJ.out.1 HJ.out.2.1 HJ.out.2.2.1 HJ.out.2.2.2 rfl fE wr.heap.size (.slice (some ⟨u1w.heap.size, 0, none⟩) 0 0) [] E.funs rfl (e4_u15w.out.own0 (sz := 2) Belu1w.out.size) _ rfl (HRF.out u15w Belu15w.out) (by have := HLV.out.2.1; have := HLV.out.2.2; simp; omega) (by have := HLV.out.2.1; have := HLV.out.2.2; unfold maxLen; simp; omega) Belu15w.out.size E.funs (by simp) ?_
                intro q7 q7d u16w hown hg
                have O7_u16w := Lib.hid hown
                have Belu16w := Lib.hid (show Below wr.heap.size wr u16w from Belu15w.out.grown hg Belu15w.out.size (fun k hk => ((e4_u15w.out.own0 (sz := 2) Belu1w.out.size).lt k hk).1))
                have z9_u16w := Lib.hid (show Blk u16w u12w.heap.size (.cells #[.slice none 0 0, .slice none 0 0, .slice none 0 0] 26) from z9_u15w.out.grown hg (fun e => Blk.ne z9_u15w.out e4_u15w.out (by simp) (Option.some.inj e)))
                have O3_u16w := Lib.hid (show u16w.ownsRow wr.heap.size 44 2 (.slice q5 E.vars.length q5d) E.vars.length (E.vars.flatMap bC) from World.ownsRow.kept O3_u15w.out hg (.inr (own_apart O3_u15w.out e4_u15w.out (by decide))))
                clear hown hg
                refine hK.out _ _ ?_ ?_
                · exact .inr (HSX.out _ Belu16w.out)
                clear hK K
                simp only [Act.put, List.getElem_toArray, List.getElem_cons_succ, List.getElem_cons_zero, List.setIfInBounds_toArray, List.set_cons_zero, List.set_cons_succ]
                refine takeL (i := 8) (k := 57) (v := ?_) rfl (by kernel_rfl) (by kernel_rfl) (by kernel_rfl) (by kernel_rfl) (fun _ _ _ h => h) (by kernel_rfl) (by kernel_rfl) (by kernel_rfl) (by rfl) ?_ (HSX.out _ Belu16w.out) ?_
                rotate_left
                · intro w hSw; (try dsimp only at hSw); go_simp <;> (with_reducible rfl)
                simp only [List.setIfInBounds_toArray, List.set_cons_zero, List.set_cons_succ]
                have c0 := cell_of_row u16w _ 0 _ _ _ z9_u16w.out
                have c1 := cell_of_row u16w _ 1 _ _ _ z9_u16w.out
                have c2 := cell_of_row u16w _ 2 _ _ _ z9_u16w.out
                have y0 := frozen_of_row u16w _ 0 _ _ z9_u16w.out
                have y1 := frozen_of_row u16w _ 1 _ _ z9_u16w.out
                have y2 := frozen_of_row u16w _ 2 _ _ z9_u16w.out
                refine nextL (i := 10) (by kernel_rfl) rfl (by kernel_rfl) (fun K hK => ?_)
                go_simp
                refine hK.out _ _ ?_ ?_
                · exact .inl (by kernel_rfl)
                clear hK K
                refine doneL (by kernel_rfl) ?_ _
                have HE := Lib.hid (show EnvAt u16w (.agg #[.slice q5 E.vars.length q5d, .slice none 0 0, .slice q7 E.funs.length q7d]) E from ⟨_, _, _, rfl, Rd.of_own bE O3_u16w.out, (by rw [EA.out]; exact Rd.nil _ _ _), Rd.of_own fE O7_u16w.out⟩)
                have HV9 := Lib.hid ((Vr.zero z9_u16w.out).put HE.out)
                have HB9 := Lib.hid (env_set Belu16w.out (show wr.heap.size ≤ u12w.heap.size from Belu12w.out.size) (.slice q5 E.vars.length q5d) (.slice none 0 0) (.slice q7 E.funs.length q7d))
                go_wp2_with fail
                go_meet
                case rel => exact ⟨u12w.heap.size, rfl, HV9.out, HB9.out⟩
            · go_simp
              refine hK.out _ _ ?_ ?_
              · exact .inr (HSX.out _ (en_alloc Belu11w.out _))
              clear hK K
              obtain ⟨u17w, hu17w⟩ : ∃ W, u11w.alloc (.cells #[.slice none 0 0, .slice none 0 0, .slice none 0 0] 26) = W := ⟨_, rfl⟩
              rw [hu17w]
              have z9_u17w := Lib.hid (show Blk u17w u11w.heap.size (.cells #[.slice none 0 0, .slice none 0 0, .slice none 0 0] 26) by rw [← hu17w]; exact Blk.new rfl)
              have Belu17w := Lib.hid (show Below wr.heap.size wr u17w by rw [← hu17w]; exact (en_alloc Belu11w.out _))
              have e0_u17w := Lib.hid (show Blk u17w wr.heap.size (.cells #[] 44) by rw [← hu17w]; exact e0_u11w.out.alloc _)
              have e4_u17w := Lib.hid (show Blk u17w u1w.heap.size (.cells #[] 47) by rw [← hu17w]; exact e4_u11w.out.alloc _)
              clear hu17w
              refine nextL (i := 3) (by kernel_rfl) rfl (by kernel_rfl) (fun K hK => ?_)
              refine wp_append_rd u17w (.tmp 49) (.tmp 51) 22 rfl 44 i0 _ 32 Try.underlying22 HI.out.1 HI.out.2.1 HI.out.2.2.1 HI.out.2.2.2 rfl bE wr.heap.size (.slice (some ⟨wr.heap.size, 0, none⟩) 0 0) [] E.vars rfl (e0_u17w.out.own0 (sz := 2) (Nat.le_refl _)) _ rfl (HRV.out u17w Belu17w.out) (by have := HLV.out.1; have := HLV.out.2.2; simp; omega) (by have := HLV.out.1; have := HLV.out.2.2; unfold maxLen; simp; omega) Belu17w.out.size E.vars (by simp) ?_
              intro q5 q5d u18w hown hg
              have O3_u18w := Lib.hid hown
              have Belu18w := Lib.hid (show Below wr.heap.size wr u18w from Belu17w.out.grown hg Belu17w.out.size (fun k hk => ((e0_u17w.out.own0 (sz := 2) (Nat.le_refl _)).lt k hk).1))
              have e4_u18w := Lib.hid (show Blk u18w u1w.heap.size (.cells #[] 47) from e4_u17w.out.grown hg (fun e => Blk.ne e4_u17w.out e0_u17w.out (by simp) (Option.some.inj e)))
              have z9_u18w := Lib.hid (show Blk u18w u11w.heap.size (.cells #[.slice none 0 0, .slice none 0 0, .slice none 0 0] 26) from z9_u17w.out.grown hg (fun e => Blk.ne z9_u17w.out e0_u17w.out (by simp) (Option.some.inj e)))
              clear hown hg
              refine hK.out _ _ ?_ ?_
              · exact .inr (HSX.out _ Belu18w.out)
              clear hK K
              simp only [Act.put, List.getElem_toArray, List.getElem_cons_succ, List.getElem_cons_zero, List.setIfInBounds_toArray, List.set_cons_zero, List.set_cons_succ]
              refine nextL (i := 7) (by kernel_rfl) rfl (by kernel_rfl) (fun K hK => ?_)
              refine wp_append_rd u18w (.tmp 53) (.tmp 55) 24 rfl 47 j0 _ 24 Try.underlying24 HJ.out.1 HJ.out.2.1 HJ.out.2.2.1 HJ.out.2.2.2 rfl fE wr.heap.size (.slice (some ⟨u1w.heap.size, 0, none⟩) 0 0) [] E.funs rfl (e4_u18w.out.own0 (sz := 2) Belu1w.out.size) _ rfl (HRF.out u18w Belu18w.out) (by have := HLV.out.2.1; have := HLV.out.2.2; simp; omega) (by have := HLV.out.2.1; have := HLV.out.2.2; unfold maxLen; simp; omega) Belu18w.out.size E.funs (by simp) ?_
              intro q7 q7d u19w hown hg
              have O7_u19w := Lib.hid hown
              have Belu19w := Lib.hid (show Below wr.heap.size wr u19w from Belu18w.out.grown hg Belu18w.out.size (fun k hk => ((e4_u18w.out.own0 (sz := 2) Belu1w.out.size).lt k hk).1))
              have z9_u19w := Lib.hid (show Blk u19w u11w.heap.size (.cells #[.slice none 0 0, .slice none 0 0, .slice none 0 0] 26) from z9_u18w.out.grown hg (fun e => Blk.ne z9_u18w.out e4_u18w.out (by simp) (Option.some.inj e)))
              have O3_u19w := Lib.hid (show u19w.ownsRow wr.heap.size 44 2 (.slice q5 E.vars.length q5d) E.vars.length (E.vars.flatMap bC) from World.ownsRow.kept O3_u18w.out hg (.inr (own_apart O3_u18w.out e4_u18w.out (by decide))))
              clear hown hg
              refine hK.out _ _ ?_ ?_
              · exact .inr (HSX.out _ Belu19w.out)
              clear hK K
              simp only [Act.put, List.getElem_toArray, List.getElem_cons_succ, List.getElem_cons_zero, List.setIfInBounds_toArray, List.set_cons_zero, List.set_cons_succ]
              refine takeL (i := 8) (k := 57) (v := ?_) rfl (by kernel_rfl) (by kernel_rfl) (by kernel_rfl) (by kernel_rfl) (fun _ _ _ h => h) (by kernel_rfl) (by kernel_rfl) (by kernel_rfl) (by rfl) ?_ (HSX.out _ Belu19w.out) ?_
              rotate_left
              · intro w hSw; (try dsimp only at hSw); go_simp <;> (with_reducible rfl)
              simp only [List.setIfInBounds_toArray, List.set_cons_zero, List.set_cons_succ]
              have c0 := cell_of_row u19w _ 0 _ _ _ z9_u19w.out
              have c1 := cell_of_row u19w _ 1 _ _ _ z9_u19w.out
              have c2 := cell_of_row u19w _ 2 _ _ _ z9_u19w.out
              have y0 := frozen_of_row u19w _ 0 _ _ z9_u19w.out
              have y1 := frozen_of_row u19w _ 1 _ _ z9_u19w.out
              have y2 := frozen_of_row u19w _ 2 _ _ z9_u19w.out
              refine nextL (i := 10) (by kernel_rfl) rfl (by kernel_rfl) (fun K hK => ?_)
              go_simp
              refine hK.out _ _ ?_ ?_
              · exact .inl (by kernel_rfl)
              clear hK K
              refine doneL (by kernel_rfl) ?_ _
              have HE := Lib.hid (show EnvAt u19w (.agg #[.slice q5 E.vars.length q5d, .slice none 0 0, .slice q7 E.funs.length q7d]) E from ⟨_, _, _, rfl, Rd.of_own bE O3_u19w.out, (by rw [EA.out]; exact Rd.nil _ _ _), Rd.of_own fE O7_u19w.out⟩)
              have HV9 := Lib.hid ((Vr.zero z9_u19w.out).put HE.out)
              have HB9 := Lib.hid (env_set Belu19w.out (show wr.heap.size ≤ u11w.heap.size from Belu11w.out.size) (.slice q5 E.vars.length q5d) (.slice none 0 0) (.slice q7 E.funs.length q7d))
              go_wp2_with fail
              go_meet
              case rel => exact ⟨u11w.heap.size, rfl, HV9.out, HB9.out⟩
          · go_simp
            refine hK.out _ _ ?_ ?_
            · exact .inr (HSX.out _ (en_alloc Belu1w.out _))
            clear hK K
            obtain ⟨u20w, hu20w⟩ : ∃ W, u1w.alloc (.cells #[.slice none 0 0, .slice none 0 0, .slice none 0 0] 26) = W := ⟨_, rfl⟩
            rw [hu20w]
            have z9_u20w := Lib.hid (show Blk u20w u1w.heap.size (.cells #[.slice none 0 0, .slice none 0 0, .slice none 0 0] 26) by rw [← hu20w]; exact Blk.new rfl)
            have Belu20w := Lib.hid (show Below wr.heap.size wr u20w by rw [← hu20w]; exact (en_alloc Belu1w.out _))
            have e0_u20w := Lib.hid (show Blk u20w wr.heap.size (.cells #[] 44) by rw [← hu20w]; exact e0_u1w.out.alloc _)
            clear hu20w
            refine twoL (i := 3) (j := 4) (by kernel_rfl) rfl rfl (by kernel_rfl) (by kernel_rfl) (fun K hK => ?_) (fun K hK => ?_)
            · refine wp_append_rd u20w (.tmp 49) (.tmp 51) 22 rfl 44 i0 _ 32 Try.underlying22 HI.out.1 HI.out.2.1 HI.out.2.2.1 HI.out.2.2.2 rfl bE wr.heap.size (.slice (some ⟨wr.heap.size, 0, none⟩) 0 0) [] E.vars rfl (e0_u20w.out.own0 (sz := 2) (Nat.le_refl _)) _ rfl (HRV.out u20w Belu20w.out) (by have := HLV.out.1; have := HLV.out.2.2; simp; omega) (by have := HLV.out.1; have := HLV.out.2.2; unfold maxLen; simp; omega) Belu20w.out.size E.vars (by simp) ?_
              intro q5 q5d u21w hown hg
              have O3_u21w := Lib.hid hown
              have Belu21w := Lib.hid (show Below wr.heap.size wr u21w from Belu20w.out.grown hg Belu20w.out.size (fun k hk => ((e0_u20w.out.own0 (sz := 2) (Nat.le_refl _)).lt k hk).1))
              have z9_u21w := Lib.hid (show Blk u21w u1w.heap.size (.cells #[.slice none 0 0, .slice none 0 0, .slice none 0 0] 26) from z9_u20w.out.grown hg (fun e => Blk.ne z9_u20w.out e0_u20w.out (by simp) (Option.some.inj e)))
              clear hown hg
              refine hK.out _ _ ?_ ?_
              · exact .inr (HSX.out _ Belu21w.out)
              clear hK K
              simp only [Act.put, List.getElem_toArray, List.getElem_cons_succ, List.getElem_cons_zero, List.setIfInBounds_toArray, List.set_cons_zero, List.set_cons_succ]
              refine nextL (i := 4) (by kernel_rfl) rfl (by kernel_rfl) (fun K hK => ?_)
              go_simp
              refine hK.out _ _ ?_ ?_
              · exact .inr (HSX.out _ (en_alloc Belu21w.out _))
              clear hK K
              obtain ⟨u22w, hu22w⟩ : ∃ W, u21w.alloc (.cells #[] 47) = W := ⟨_, rfl⟩
              rw [hu22w]
              have e4_u22w := Lib.hid (show Blk u22w u21w.heap.size (.cells #[] 47) by rw [← hu22w]; exact Blk.new rfl)
              have Belu22w := Lib.hid (show Below wr.heap.size wr u22w by rw [← hu22w]; exact (en_alloc Belu21w.out _))
              have z9_u22w := Lib.hid (show Blk u22w u1w.heap.size (.cells #[.slice none 0 0, .slice none 0 0, .slice none 0 0] 26) by rw [← hu22w]; exact z9_u21w.out.alloc _)
              have O3_u22w := Lib.hid (show u22w.ownsRow wr.heap.size 44 2 (.slice q5 E.vars.length q5d) E.vars.length (E.vars.flatMap bC) by rw [← hu22w]; exact O3_u21w.out.alloc _)
              clear hu22w
              refine nextL (i := 7) (by kernel_rfl) rfl (by kernel_rfl) (fun K hK => ?_)
              refine wp_append_rd u22w (.tmp 53) (.tmp 55) 24 rfl 47 j0 _ 24 Try.underlying24 HJ.out.1 HJ.out.2.1 HJ.out.2.2.1 HJ.out.2.2.2 rfl fE wr.heap.size (.slice (some ⟨u21w.heap.size, 0, none⟩) 0 0) [] E.funs rfl (e4_u22w.out.own0 (sz := 2) Belu21w.out.size) _ rfl (HRF.out u22w Belu22w.out) (by have := HLV.out.2.1; have := HLV.out.2.2; simp; omega) (by have := HLV.out.2.1; have := HLV.out.2.2; unfold maxLen; simp; omega) Belu22w.out.size E.funs (by simp) ?_
              intro q7 q7d u23w hown hg
              have O7_u23w := Lib.hid hown
              have Belu23w := Lib.hid (show Below wr.heap.size wr u23w from Belu22w.out.grown hg Belu22w.out.size (fun k hk => ((e4_u22w.out.own0 (sz := 2) Belu21w.out.size).lt k hk).1))
              have z9_u23w := Lib.hid (show Blk u23w u1w.heap.size (.cells #[.slice none 0 0, .slice none 0 0, .slice none 0 0] 26) from z9_u22w.out.grown hg (fun e => Blk.ne z9_u22w.out e4_u22w.out (by simp) (Option.some.inj e)))
              have O3_u23w := Lib.hid (show u23w.ownsRow wr.heap.size 44 2 (.slice q5 E.vars.length q5d) E.vars.length (E.vars.flatMap bC) from World.ownsRow.kept O3_u22w.out hg (.inr (own_apart O3_u22w.out e4_u22w.out (by decide))))
              clear hown hg
              refine hK.out _ _ ?_ ?_
              · exact .inr (HSX.out _ Belu23w.out)
              clear hK K
              simp only [Act.put, List.getElem_toArray, List.getElem_cons_succ, List.getElem_cons_zero, List.setIfInBounds_toArray, List.set_cons_zero, List.set_cons_succ]
              refine takeL (i := 8) (k := 57) (v := ?_) rfl (by kernel_rfl) (by kernel_rfl) (by kernel_rfl) (by kernel_rfl) (fun _ _ _ h => h) (by kernel_rfl) (by kernel_rfl) (by kernel_rfl) (by rfl) ?_ (HSX.out _ Belu23w.out) ?_
              rotate_left
              · intro w hSw; (try dsimp only at hSw); go_simp <;> (with_reducible rfl)
              simp only [List.setIfInBounds_toArray, List.set_cons_zero, List.set_cons_succ]
              have c0 := cell_of_row u23w _ 0 _ _ _ z9_u23w.out
              have c1 := cell_of_row u23w _ 1 _ _ _ z9_u23w.out
              have c2 := cell_of_row u23w _ 2 _ _ _ z9_u23w.out
              have y0 := frozen_of_row u23w _ 0 _ _ z9_u23w.out
              have y1 := frozen_of_row u23w _ 1 _ _ z9_u23w.out
              have y2 := frozen_of_row u23w _ 2 _ _ z9_u23w.out
              refine nextL (i := 10) (by kernel_rfl) rfl (by kernel_rfl) (fun K hK => ?_)
              go_simp
              refine hK.out _ _ ?_ ?_
              · exact .inl (by kernel_rfl)
              clear hK K
              refine doneL (by kernel_rfl) ?_ _
              have HE := Lib.hid (show EnvAt u23w (.agg #[.slice q5 E.vars.length q5d, .slice none 0 0, .slice q7 E.funs.length q7d]) E from ⟨_, _, _, rfl, Rd.of_own bE O3_u23w.out, (by rw [EA.out]; exact Rd.nil _ _ _), Rd.of_own fE O7_u23w.out⟩)
              have HV9 := Lib.hid ((Vr.zero z9_u23w.out).put HE.out)
              have HB9 := Lib.hid (env_set Belu23w.out (show wr.heap.size ≤ u1w.heap.size from Belu1w.out.size) (.slice q5 E.vars.length q5d) (.slice none 0 0) (.slice q7 E.funs.length q7d))
              go_wp2_with fail
              go_meet
              case rel => exact ⟨u1w.heap.size, rfl, HV9.out, HB9.out⟩
            · go_simp
              refine hK.out _ _ ?_ ?_
              · exact .inr (HSX.out _ (en_alloc Belu20w.out _))
              clear hK K
              obtain ⟨u24w, hu24w⟩ : ∃ W, u20w.alloc (.cells #[] 47) = W := ⟨_, rfl⟩
              rw [hu24w]
              have e4_u24w := Lib.hid (show Blk u24w u20w.heap.size (.cells #[] 47) by rw [← hu24w]; exact Blk.new rfl)
              have Belu24w := Lib.hid (show Below wr.heap.size wr u24w by rw [← hu24w]; exact (en_alloc Belu20w.out _))
              have e0_u24w := Lib.hid (show Blk u24w wr.heap.size (.cells #[] 44) by rw [← hu24w]; exact e0_u20w.out.alloc _)
              have z9_u24w := Lib.hid (show Blk u24w u1w.heap.size (.cells #[.slice none 0 0, .slice none 0 0, .slice none 0 0] 26) by rw [← hu24w]; exact z9_u20w.out.alloc _)
              clear hu24w
              refine nextL (i := 3) (by kernel_rfl) rfl (by kernel_rfl) (fun K hK => ?_)
              refine wp_append_rd u24w (.tmp 49) (.tmp 51) 22 rfl 44 i0 _ 32 Try.underlying22 HI.out.1 HI.out.2.1 HI.out.2.2.1 HI.out.2.2.2 rfl bE wr.heap.size (.slice (some ⟨wr.heap.size, 0, none⟩) 0 0) [] E.vars rfl (e0_u24w.out.own0 (sz := 2) (Nat.le_refl _)) _ rfl (HRV.out u24w Belu24w.out) (by have := HLV.out.1; have := HLV.out.2.2; simp; omega) (by have := HLV.out.1; have := HLV.out.2.2; unfold maxLen; simp; omega) Belu24w.out.size E.vars (by simp) ?_
              intro q5 q5d u25w hown hg
              have O3_u25w := Lib.hid hown
              have Belu25w := Lib.hid (show Below wr.heap.size wr u25w from Belu24w.out.grown hg Belu24w.out.size (fun k hk => ((e0_u24w.out.own0 (sz := 2) (Nat.le_refl _)).lt k hk).1))
              have z9_u25w := Lib.hid (show Blk u25w u1w.heap.size (.cells #[.slice none 0 0, .slice none 0 0, .slice none 0 0] 26) from z9_u24w.out.grown hg (fun e => Blk.ne z9_u24w.out e0_u24w.out (by simp) (Option.some.inj e)))
              have e4_u25w := Lib.hid (show Blk u25w u20w.heap.size (.cells #[] 47) from e4_u24w.out.grown hg (fun e => Blk.ne e4_u24w.out e0_u24w.out (by simp) (Option.some.inj e)))
              clear hown hg
              refine hK.out _ _ ?_ ?_
              · exact .inr (HSX.out _ Belu25w.out)
              clear hK K
              simp only [Act.put, List.getElem_toArray, List.getElem_cons_succ, List.getElem_cons_zero, List.setIfInBounds_toArray, List.set_cons_zero, List.set_cons_succ]
              refine nextL (i := 7) (by kernel_rfl) rfl (by kernel_rfl) (fun K hK => ?_)
              refine wp_append_rd u25w (.tmp 53) (.tmp 55) 24 rfl 47 j0 _ 24 Try.underlying24 HJ.out.1 HJ.out.2.1 HJ.out.2.2.1 HJ.out.2.2.2 rfl fE wr.heap.size (.slice (some ⟨u20w.heap.size, 0, none⟩) 0 0) [] E.funs rfl (e4_u25w.out.own0 (sz := 2) Belu20w.out.size) _ rfl (HRF.out u25w Belu25w.out) (by have := HLV.out.2.1; have := HLV.out.2.2; simp; omega) (by have := HLV.out.2.1; have := HLV.out.2.2; unfold maxLen; simp; omega) Belu25w.out.size E.funs (by simp) ?_
              intro q7 q7d u26w hown hg
              have O7_u26w := Lib.hid hown
              have Belu26w := Lib.hid (show Below wr.heap.size wr u26w from Belu25w.out.grown hg Belu25w.out.size (fun k hk => ((e4_u25w.out.own0 (sz := 2) Belu20w.out.size).lt k hk).1))
              have z9_u26w := Lib.hid (show Blk u26w u1w.heap.size (.cells #[.slice none 0 0, .slice none 0 0, .slice none 0 0] 26) from z9_u25w.out.grown hg (fun e => Blk.ne z9_u25w.out e4_u25w.out (by simp) (Option.some.inj e)))
              have O3_u26w := Lib.hid (show u26w.ownsRow wr.heap.size 44 2 (.slice q5 E.vars.length q5d) E.vars.length (E.vars.flatMap bC) from World.ownsRow.kept O3_u25w.out hg (.inr (own_apart O3_u25w.out e4_u25w.out (by decide))))
              clear hown hg
              refine hK.out _ _ ?_ ?_
              · exact .inr (HSX.out _ Belu26w.out)
              clear hK K
              simp only [Act.put, List.getElem_toArray, List.getElem_cons_succ, List.getElem_cons_zero, List.setIfInBounds_toArray, List.set_cons_zero, List.set_cons_succ]
              refine takeL (i := 8) (k := 57) (v := ?_) rfl (by kernel_rfl) (by kernel_rfl) (by kernel_rfl) (by kernel_rfl) (fun _ _ _ h => h) (by kernel_rfl) (by kernel_rfl) (by kernel_rfl) (by rfl) ?_ (HSX.out _ Belu26w.out) ?_
              rotate_left
              · intro w hSw; (try dsimp only at hSw); go_simp <;> (with_reducible rfl)
              simp only [List.setIfInBounds_toArray, List.set_cons_zero, List.set_cons_succ]
              have c0 := cell_of_row u26w _ 0 _ _ _ z9_u26w.out
              have c1 := cell_of_row u26w _ 1 _ _ _ z9_u26w.out
              have c2 := cell_of_row u26w _ 2 _ _ _ z9_u26w.out
              have y0 := frozen_of_row u26w _ 0 _ _ z9_u26w.out
              have y1 := frozen_of_row u26w _ 1 _ _ z9_u26w.out
              have y2 := frozen_of_row u26w _ 2 _ _ z9_u26w.out
              refine nextL (i := 10) (by kernel_rfl) rfl (by kernel_rfl) (fun K hK => ?_)
              go_simp
              refine hK.out _ _ ?_ ?_
              · exact .inl (by kernel_rfl)
              clear hK K
              refine doneL (by kernel_rfl) ?_ _
              have HE := Lib.hid (show EnvAt u26w (.agg #[.slice q5 E.vars.length q5d, .slice none 0 0, .slice q7 E.funs.length q7d]) E from ⟨_, _, _, rfl, Rd.of_own bE O3_u26w.out, (by rw [EA.out]; exact Rd.nil _ _ _), Rd.of_own fE O7_u26w.out⟩)
              have HV9 := Lib.hid ((Vr.zero z9_u26w.out).put HE.out)
              have HB9 := Lib.hid (env_set Belu26w.out (show wr.heap.size ≤ u1w.heap.size from Belu1w.out.size) (.slice q5 E.vars.length q5d) (.slice none 0 0) (.slice q7 E.funs.length q7d))
              go_wp2_with fail
              go_meet
              case rel => exact ⟨u1w.heap.size, rfl, HV9.out, HB9.out⟩
        · go_simp
          refine hK.out _ _ ?_ ?_
          · exact .inr (HSX.out _ (en_alloc (Below.refl _ _) _).drew)
          clear hK K
          obtain ⟨u27w, hu27w⟩ : ∃ W, (wr.alloc (.cells #[] 47)).drew = W := ⟨_, rfl⟩
          rw [hu27w]
          have e4_u27w := Lib.hid (show Blk u27w wr.heap.size (.cells #[] 47) by rw [← hu27w]; exact Blk.new rfl)
          have Belu27w := Lib.hid (show Below wr.heap.size wr u27w by rw [← hu27w]; exact (en_alloc (Below.refl _ _) _).drew)
          clear hu27w
          refine twoL (i := 0) (j := 9) (by kernel_rfl) rfl rfl (by kernel_rfl) (by kernel_rfl) (fun K hK => ?_) (fun K hK => ?_)
          · go_simp
            refine hK.out _ _ ?_ ?_
            · exact .inr (HSX.out _ (en_alloc Belu27w.out _))
            clear hK K
            obtain ⟨u28w, hu28w⟩ : ∃ W, u27w.alloc (.cells #[] 44) = W := ⟨_, rfl⟩
            rw [hu28w]
            have e0_u28w := Lib.hid (show Blk u28w u27w.heap.size (.cells #[] 44) by rw [← hu28w]; exact Blk.new rfl)
            have Belu28w := Lib.hid (show Below wr.heap.size wr u28w by rw [← hu28w]; exact (en_alloc Belu27w.out _))
            have e4_u28w := Lib.hid (show Blk u28w wr.heap.size (.cells #[] 47) by rw [← hu28w]; exact e4_u27w.out.alloc _)
            clear hu28w
            refine twoL (i := 3) (j := 9) (by kernel_rfl) rfl rfl (by kernel_rfl) (by kernel_rfl) (fun K hK => ?_) (fun K hK => ?_)
            · refine wp_append_rd u28w (.tmp 49) (.tmp 51) 22 rfl 44 i0 _ 32 Try.underlying22 HI.out.1 HI.out.2.1 HI.out.2.2.1 HI.out.2.2.2 rfl bE wr.heap.size (.slice (some ⟨u27w.heap.size, 0, none⟩) 0 0) [] E.vars rfl (e0_u28w.out.own0 (sz := 2) Belu27w.out.size) _ rfl (HRV.out u28w Belu28w.out) (by have := HLV.out.1; have := HLV.out.2.2; simp; omega) (by have := HLV.out.1; have := HLV.out.2.2; unfold maxLen; simp; omega) Belu28w.out.size E.vars (by simp) ?_
              intro q5 q5d u29w hown hg
              have O3_u29w := Lib.hid hown
              have Belu29w := Lib.hid (show Below wr.heap.size wr u29w from Belu28w.out.grown hg Belu28w.out.size (fun k hk => ((e0_u28w.out.own0 (sz := 2) Belu27w.out.size).lt k hk).1))
              have e4_u29w := Lib.hid (show Blk u29w wr.heap.size (.cells #[] 47) from e4_u28w.out.grown hg (fun e => Blk.ne e4_u28w.out e0_u28w.out (by simp) (Option.some.inj e)))
              clear hown hg
              refine hK.out _ _ ?_ ?_
              · exact .inr (HSX.out _ Belu29w.out)
              clear hK K
              simp only [Act.put, List.getElem_toArray, List.getElem_cons_succ, List.getElem_cons_zero, List.setIfInBounds_toArray, List.set_cons_zero, List.set_cons_succ]
              refine twoL (i := 7) (j := 9) (by kernel_rfl) rfl rfl (by kernel_rfl) (by kernel_rfl) (fun K hK => ?_) (fun K hK => ?_)
              · refine wp_append_rd u29w (.tmp 53) (.tmp 55) 24 rfl 47 j0 _ 24 Try.underlying24 HJ.out.1 HJ.out.2.1 HJ.out.2.2.1 HJ.out.2.2.2 rfl fE wr.heap.size (.slice (some ⟨wr.heap.size, 0, none⟩) 0 0) [] E.funs rfl (e4_u29w.out.own0 (sz := 2) (Nat.le_refl _)) _ rfl (HRF.out u29w Belu29w.out) (by have := HLV.out.2.1; have := HLV.out.2.2; simp; omega) (by have := HLV.out.2.1; have := HLV.out.2.2; unfold maxLen; simp; omega) Belu29w.out.size E.funs (by simp) ?_
                intro q7 q7d u30w hown hg
                have O7_u30w := Lib.hid hown
                have Belu30w := Lib.hid (show Below wr.heap.size wr u30w from Belu29w.out.grown hg Belu29w.out.size (fun k hk => ((e4_u29w.out.own0 (sz := 2) (Nat.le_refl _)).lt k hk).1))
                have O3_u30w := Lib.hid (show u30w.ownsRow wr.heap.size 44 2 (.slice q5 E.vars.length q5d) E.vars.length (E.vars.flatMap bC) from World.ownsRow.kept O3_u29w.out hg (.inr (own_apart O3_u29w.out e4_u29w.out (by decide))))
                clear hown hg
                refine hK.out _ _ ?_ ?_
                · exact .inr (HSX.out _ Belu30w.out)
                clear hK K
                simp only [Act.put, List.getElem_toArray, List.getElem_cons_succ, List.getElem_cons_zero, List.setIfInBounds_toArray, List.set_cons_zero, List.set_cons_succ]
                refine takeL (i := 8) (k := 57) (v := ?_) rfl (by kernel_rfl) (by kernel_rfl) (by kernel_rfl) (by kernel_rfl) (fun _ _ _ h => h) (by kernel_rfl) (by kernel_rfl) (by kernel_rfl) (by rfl) ?_ (HSX.out _ Belu30w.out) ?_
                rotate_left
                · intro w hSw; (try dsimp only at hSw); go_simp <;> (with_reducible rfl)
                simp only [List.setIfInBounds_toArray, List.set_cons_zero, List.set_cons_succ]
                refine nextL (i := 9) (by kernel_rfl) rfl (by kernel_rfl) (fun K hK => ?_)
                go_simp
                refine hK.out _ _ ?_ ?_
                · exact .inr (HSX.out _ (en_alloc Belu30w.out _))
                clear hK K
                obtain ⟨u31w, hu31w⟩ : ∃ W, u30w.alloc (.cells #[.slice none 0 0, .slice none 0 0, .slice none 0 0] 26) = W := ⟨_, rfl⟩
                rw [hu31w]
                have z9_u31w := Lib.hid (show Blk u31w u30w.heap.size (.cells #[.slice none 0 0, .slice none 0 0, .slice none 0 0] 26) by rw [← hu31w]; exact Blk.new rfl)
                have Belu31w := Lib.hid (show Below wr.heap.size wr u31w by rw [← hu31w]; exact (en_alloc Belu30w.out _))
                have O3_u31w := Lib.hid (show u31w.ownsRow wr.heap.size 44 2 (.slice q5 E.vars.length q5d) E.vars.length (E.vars.flatMap bC) by rw [← hu31w]; exact O3_u30w.out.alloc _)
                have O7_u31w := Lib.hid (show u31w.ownsRow wr.heap.size 47 2 (.slice q7 E.funs.length q7d) E.funs.length (E.funs.flatMap fC) by rw [← hu31w]; exact O7_u30w.out.alloc _)
                clear hu31w
                have c0 := cell_of_row u31w _ 0 _ _ _ z9_u31w.out
                have c1 := cell_of_row u31w _ 1 _ _ _ z9_u31w.out
                have c2 := cell_of_row u31w _ 2 _ _ _ z9_u31w.out
                have y0 := frozen_of_row u31w _ 0 _ _ z9_u31w.out
                have y1 := frozen_of_row u31w _ 1 _ _ z9_u31w.out
                have y2 := frozen_of_row u31w _ 2 _ _ z9_u31w.out
                refine nextL (i := 10) (by kernel_rfl) rfl (by kernel_rfl) (fun K hK => ?_)
                go_simp
                refine hK.out _ _ ?_ ?_
                · exact .inl (by kernel_rfl)
                clear hK K
                refine doneL (by kernel_rfl) ?_ _
                have HE := Lib.hid (show EnvAt u31w (.agg #[.slice q5 E.vars.length q5d, .slice none 0 0, .slice q7 E.funs.length q7d]) E from ⟨_, _, _, rfl, Rd.of_own bE O3_u31w.out, (by rw [EA.out]; exact Rd.nil _ _ _), Rd.of_own fE O7_u31w.out⟩)
                have HV9 := Lib.hid ((Vr.zero z9_u31w.out).put HE.out)
                have HB9 := Lib.hid (env_set Belu31w.out (show wr.heap.size ≤ u30w.heap.size from Belu30w.out.size) (.slice q5 E.vars.length q5d) (.slice none 0 0) (.slice q7 E.funs.length q7d))
                go_wp2_with fail
                go_meet
                case rel => exact ⟨u30w.heap.size, rfl, HV9.out, HB9.out⟩
              · go_simp
                refine hK.out _ _ ?_ ?_
                · exact .inr (HSX.out _ (en_alloc Belu29w.out _))
                clear hK K
                obtain ⟨u32w, hu32w⟩ : ∃ W, u29w.alloc (.cells #[.slice none 0 0, .slice none 0 0, .slice none 0 0] 26) = W := ⟨_, rfl⟩
                rw [hu32w]
                have z9_u32w := Lib.hid (show Blk u32w u29w.heap.size (.cells #[.slice none 0 0, .slice none 0 0, .slice none 0 0] 26) by rw [← hu32w]; exact Blk.new rfl)
                have Belu32w := Lib.hid (show Below wr.heap.size wr u32w by rw [← hu32w]; exact (en_alloc Belu29w.out _))
                have e4_u32w := Lib.hid (show Blk u32w wr.heap.size (.cells #[] 47) by rw [← hu32w]; exact e4_u29w.out.alloc _)
                have O3_u32w := Lib.hid (show u32w.ownsRow wr.heap.size 44 2 (.slice q5 E.vars.length q5d) E.vars.length (E.vars.flatMap bC) by rw [← hu32w]; exact O3_u29w.out.alloc _)
                clear hu32w
                refine nextL (i := 7) (by kernel_rfl) rfl (by kernel_rfl) (fun K hK => ?_)
                refine wp_append_rd u32w (.tmp 53) (.tmp 55) 24 rfl 47 j0 _ 24 Try.underlying24 HJ.out.1 HJ.out.2.1 HJ.out.2.2.1 HJ.out.2.2.2 rfl fE wr.heap.size (.slice (some ⟨wr.heap.size, 0, none⟩) 0 0) [] E.funs rfl (e4_u32w.out.own0 (sz := 2) (Nat.le_refl _)) _ rfl (HRF.out u32w Belu32w.out) (by have := HLV.out.2.1; have := HLV.out.2.2; simp; omega) (by have := HLV.out.2.1; have := HLV.out.2.2; unfold maxLen; simp; omega) Belu32w.out.size E.funs (by simp) ?_
                intro q7 q7d u33w hown hg
                have O7_u33w := Lib.hid hown
                have Belu33w := Lib.hid (show Below wr.heap.size wr u33w from Belu32w.out.grown hg Belu32w.out.size (fun k hk => ((e4_u32w.out.own0 (sz := 2) (Nat.le_refl _)).lt k hk).1))
                have z9_u33w := Lib.hid (show Blk u33w u29w.heap.size (.cells #[.slice none 0 0, .slice none 0 0, .slice none 0 0] 26) from z9_u32w.out.grown hg (fun e => Blk.ne z9_u32w.out e4_u32w.out (by simp) (Option.some.inj e)))
                have O3_u33w := Lib.hid (show u33w.ownsRow wr.heap.size 44 2 (.slice q5 E.vars.length q5d) E.vars.length (E.vars.flatMap bC) from World.ownsRow.kept O3_u32w.out hg (.inr (own_apart O3_u32w.out e4_u32w.out (by decide))))
                clear hown hg
                refine hK.out _ _ ?_ ?_
                · exact .inr (HSX.out _ Belu33w.out)
                clear hK K
                simp only [Act.put, List.getElem_toArray, List.getElem_cons_succ, List.getElem_cons_zero, List.setIfInBounds_toArray, List.set_cons_zero, List.set_cons_succ]
                refine takeL (i := 8) (k := 57) (v := ?_) rfl (by kernel_rfl) (by kernel_rfl) (by kernel_rfl) (by kernel_rfl) (fun _ _ _ h => h) (by kernel_rfl) (by kernel_rfl) (by kernel_rfl) (by rfl) ?_ (HSX.out _ Belu33w.out) ?_
                rotate_left
                · intro w hSw; (try dsimp only at hSw); go_simp <;> (with_reducible rfl)
                simp only [List.setIfInBounds_toArray, List.set_cons_zero, List.set_cons_succ]
                have c0 := cell_of_row u33w _ 0 _ _ _ z9_u33w.out
                have c1 := cell_of_row u33w _ 1 _ _ _ z9_u33w.out
                have c2 := cell_of_row u33w _ 2 _ _ _ z9_u33w.out
                have y0 := frozen_of_row u33w _ 0 _ _ z9_u33w.out
                have y1 := frozen_of_row u33w _ 1 _ _ z9_u33w.out
                have y2 := frozen_of_row u33w _ 2 _ _ z9_u33w.out
                refine nextL (i := 10) (by kernel_rfl) rfl (by kernel_rfl) (fun K hK => ?_)
                go_simp
                refine hK.out _ _ ?_ ?_
                · exact .inl (by kernel_rfl)
                clear hK K
                refine doneL (by kernel_rfl) ?_ _
                have HE := Lib.hid (show EnvAt u33w (.agg #[.slice q5 E.vars.length q5d, .slice none 0 0, .slice q7 E.funs.length q7d]) E from ⟨_, _, _, rfl, Rd.of_own bE O3_u33w.out, (by rw [EA.out]; exact Rd.nil _ _ _), Rd.of_own fE O7_u33w.out⟩)
                have HV9 := Lib.hid ((Vr.zero z9_u33w.out).put HE.out)
                have HB9 := Lib.hid (env_set Belu33w.out (show wr.heap.size ≤ u29w.heap.size from Belu29w.out.size) (.slice q5 E.vars.length q5d) (.slice none 0 0) (.slice q7 E.funs.length q7d))
                go_wp2_with fail
                go_meet
                case rel => exact ⟨u29w.heap.size, rfl, HV9.out, HB9.out⟩
            · go_simp
              refine hK.out _ _ ?_ ?_
              · exact .inr (HSX.out _ (en_alloc Belu28w.out _))
              clear hK K
              obtain ⟨u34w, hu34w⟩ : ∃ W, u28w.alloc (.cells #[.slice none 0 0, .slice none 0 0, .slice none 0 0] 26) = W := ⟨_, rfl⟩
              rw [hu34w]
              have z9_u34w := Lib.hid (show Blk u34w u28w.heap.size (.cells #[.slice none 0 0, .slice none 0 0, .slice none 0 0] 26) by rw [← hu34w]; exact Blk.new rfl)
              have Belu34w := Lib.hid (show Below wr.heap.size wr u34w by rw [← hu34w]; exact (en_alloc Belu28w.out _))
              have e4_u34w := Lib.hid (show Blk u34w wr.heap.size (.cells #[] 47) by rw [← hu34w]; exact e4_u28w.out.alloc _)
              have e0_u34w := Lib.hid (show Blk u34w u27w.heap.size (.cells #[] 44) by rw [← hu34w]; exact e0_u28w.out.alloc _)
              clear hu34w
              refine nextL (i := 3) (by kernel_rfl) rfl (by kernel_rfl) (fun K hK => ?_)
              refine wp_append_rd u34w (.tmp 49) (.tmp 51) 22 rfl 44 i0 _ 32 Try.underlying22 HI.out.1 HI.out.2.1 HI.out.2.2.1 HI.out.2.2.2 rfl bE wr.heap.size (.slice (some ⟨u27w.heap.size, 0, none⟩) 0 0) [] E.vars rfl (e0_u34w.out.own0 (sz := 2) Belu27w.out.size) _ rfl (HRV.out u34w Belu34w.out) (by have := HLV.out.1; have := HLV.out.2.2; simp; omega) (by have := HLV.out.1; have := HLV.out.2.2; unfold maxLen; simp; omega) Belu34w.out.size E.vars (by simp) ?_
              intro q5 q5d u35w hown hg
              have O3_u35w := Lib.hid hown
              have Belu35w := Lib.hid (show Below wr.heap.size wr u35w from Belu34w.out.grown hg Belu34w.out.size (fun k hk => ((e0_u34w.out.own0 (sz := 2) Belu27w.out.size).lt k hk).1))
              have e4_u35w := Lib.hid (show Blk u35w wr.heap.size (.cells #[] 47) from e4_u34w.out.grown hg (fun e => Blk.ne e4_u34w.out e0_u34w.out (by simp) (Option.some.inj e)))
              have z9_u35w := Lib.hid (show Blk u35w u28w.heap.size (.cells #[.slice none 0 0, .slice none 0 0, .slice none 0 0] 26) from z9_u34w.out.grown hg (fun e => Blk.ne z9_u34w.out e0_u34w.out (by simp) (Option.some.inj e)))
              clear hown hg
              refine hK.out _ _ ?_ ?_
              · exact .inr (HSX.out _ Belu35w.out)
              clear hK K
              simp only [Act.put, List.getElem_toArray, List.getElem_cons_succ, List.getElem_cons_zero, List.setIfInBounds_toArray, List.set_cons_zero, List.set_cons_succ]
              refine nextL (i := 7) (by kernel_rfl) rfl (by kernel_rfl) (fun K hK => ?_)
              refine wp_append_rd u35w (.tmp 53) (.tmp 55) 24 rfl 47 j0 _ 24 Try.underlying24 HJ.out.1 HJ.out.2.1 HJ.out.2.2.1 HJ.out.2.2.2 rfl fE wr.heap.size (.slice (some ⟨wr.heap.size, 0, none⟩) 0 0) [] E.funs rfl (e4_u35w.out.own0 (sz := 2) (Nat.le_refl _)) _ rfl (HRF.out u35w Belu35w.out) (by have := HLV.out.2.1; have := HLV.out.2.2; simp; omega) (by have := HLV.out.2.1; have := HLV.out.2.2; unfold maxLen; simp; omega) Belu35w.out.size E.funs (by simp) ?_
              intro q7 q7d u36w hown hg
              have O7_u36w := Lib.hid hown
              have Belu36w := Lib.hid (show Below wr.heap.size wr u36w from Belu35w.out.grown hg Belu35w.out.size (fun k hk => ((e4_u35w.out.own0 (sz := 2) (Nat.le_refl _)).lt k hk).1))
              have z9_u36w := Lib.hid (show Blk u36w u28w.heap.size (.cells #[.slice none 0 0, .slice none 0 0, .slice none 0 0] 26) from z9_u35w.out.grown hg (fun e => Blk.ne z9_u35w.out e4_u35w.out (by simp) (Option.some.inj e)))
              have O3_u36w := Lib.hid (show u36w.ownsRow wr.heap.size 44 2 (.slice q5 E.vars.length q5d) E.vars.length (E.vars.flatMap bC) from World.ownsRow.kept O3_u35w.out hg (.inr (own_apart O3_u35w.out e4_u35w.out (by decide))))
              clear hown hg
              refine hK.out _ _ ?_ ?_
              · exact .inr (HSX.out _ Belu36w.out)
              clear hK K
              simp only [Act.put, List.getElem_toArray, List.getElem_cons_succ, List.getElem_cons_zero, List.setIfInBounds_toArray, List.set_cons_zero, List.set_cons_succ]
              refine takeL (i := 8) (k := 57) (v := ?_) rfl (by kernel_rfl) (by kernel_rfl) (by kernel_rfl) (by kernel_rfl) (fun _ _ _ h => h) (by kernel_rfl) (by kernel_rfl) (by kernel_rfl) (by rfl) ?_ (HSX.out _ Belu36w.out) ?_
              rotate_left
              · intro w hSw; (try dsimp only at hSw); go_simp <;> (with_reducible rfl)
              simp only [List.setIfInBounds_toArray, List.set_cons_zero, List.set_cons_succ]
              have c0 := cell_of_row u36w _ 0 _ _ _ z9_u36w.out
              have c1 := cell_of_row u36w _ 1 _ _ _ z9_u36w.out
              have c2 := cell_of_row u36w _ 2 _ _ _ z9_u36w.out
              have y0 := frozen_of_row u36w _ 0 _ _ z9_u36w.out
              have y1 := frozen_of_row u36w _ 1 _ _ z9_u36w.out
              have y2 := frozen_of_row u36w _ 2 _ _ z9_u36w.out
              refine nextL (i := 10) (by kernel_rfl) rfl (by kernel_rfl) (fun K hK => ?_)
              go_simp
              refine hK.out _ _ ?_ ?_
              · exact .inl (by kernel_rfl)
              clear hK K
              refine doneL (by kernel_rfl) ?_ _
              have HE := Lib.hid (show EnvAt u36w (.agg #[.slice q5 E.vars.length q5d, .slice none 0 0, .slice q7 E.funs.length q7d]) E from ⟨_, _, _, rfl, Rd.of_own bE O3_u36w.out, (by rw [EA.out]; exact Rd.nil _ _ _), Rd.of_own fE O7_u36w.out⟩)
              have HV9 := Lib.hid ((Vr.zero z9_u36w.out).put HE.out)
              have HB9 := Lib.hid (env_set Belu36w.out (show wr.heap.size ≤ u28w.heap.size from Belu28w.out.size) (.slice q5 E.vars.length q5d) (.slice none 0 0) (.slice q7 E.funs.length q7d))
              go_wp2_with fail
              go_meet
              case rel => exact ⟨u28w.heap.size, rfl, HV9.out, HB9.out⟩
          · go_simp
            refine hK.out _ _ ?_ ?_
            · exact .inr (HSX.out _ (en_alloc Belu27w.out _))
            clear hK K
            obtain ⟨u37w, hu37w⟩ : ∃ W, u27w.alloc (.cells #[.slice none 0 0, .slice none 0 0, .slice none 0 0] 26) = W := ⟨_, rfl⟩
            rw [hu37w]
            have z9_u37w := Lib.hid (show Blk u37w u27w.heap.size (.cells #[.slice none 0 0, .slice none 0 0, .slice none 0 0] 26) by rw [← hu37w]; exact Blk.new rfl)
            have Belu37w := Lib.hid (show Below wr.heap.size wr u37w by rw [← hu37w]; exact (en_alloc Belu27w.out _))
            have e4_u37w := Lib.hid (show Blk u37w wr.heap.size (.cells #[] 47) by rw [← hu37w]; exact e4_u27w.out.alloc _)
            clear hu37w
            refine nextL (i := 0) (by kernel_rfl) rfl (by kernel_rfl) (fun K hK => ?_)
            go_simp
            refine hK.out _ _ ?_ ?_
            · exact .inr (HSX.out _ (en_alloc Belu37w.out _))
            clear hK K
            obtain ⟨u38w, hu38w⟩ : ∃ W, u37w.alloc (.cells #[] 44) = W := ⟨_, rfl⟩
            rw [hu38w]
            have e0_u38w := Lib.hid (show Blk u38w u37w.heap.size (.cells #[] 44) by rw [← hu38w]; exact Blk.new rfl)
            have Belu38w := Lib.hid (show Below wr.heap.size wr u38w by rw [← hu38w]; exact (en_alloc Belu37w.out _))
            have e4_u38w := Lib.hid (show Blk u38w wr.heap.size (.cells #[] 47) by rw [← hu38w]; exact e4_u37w.out.alloc _)
            have z9_u38w := Lib.hid (show Blk u38w u27w.heap.size (.cells #[.slice none 0 0, .slice none 0 0, .slice none 0 0] 26) by rw [← hu38w]; exact z9_u37w.out.alloc _)
            clear hu38w
            refine nextL (i := 3) (by kernel_rfl) rfl (by kernel_rfl) (fun K hK => ?_)
            refine wp_append_rd u38w (.tmp 49) (.tmp 51) 22 rfl 44 i0 _ 32 Try.underlying22 HI.out.1 HI.out.2.1 HI.out.2.2.1 HI.out.2.2.2 rfl bE wr.heap.size (.slice (some ⟨u37w.heap.size, 0, none⟩) 0 0) [] E.vars rfl (e0_u38w.out.own0 (sz := 2) Belu37w.out.size) _ rfl (HRV.out u38w Belu38w.out) (by have := HLV.out.1; have := HLV.out.2.2; simp; omega) (by have := HLV.out.1; have := HLV.out.2.2; unfold maxLen; simp; omega) Belu38w.out.size E.vars (by simp) ?_
            intro q5 q5d u39w hown hg
            have O3_u39w := Lib.hid hown
            have Belu39w := Lib.hid (show Below wr.heap.size wr u39w from Belu38w.out.grown hg Belu38w.out.size (fun k hk => ((e0_u38w.out.own0 (sz := 2) Belu37w.out.size).lt k hk).1))
            have e4_u39w := Lib.hid (show Blk u39w wr.heap.size (.cells #[] 47) from e4_u38w.out.grown hg (fun e => Blk.ne e4_u38w.out e0_u38w.out (by simp) (Option.some.inj e)))
            have z9_u39w := Lib.hid (show Blk u39w u27w.heap.size (.cells #[.slice none 0 0, .slice none 0 0, .slice none 0 0] 26) from z9_u38w.out.grown hg (fun e => Blk.ne z9_u38w.out e0_u38w.out (by simp) (Option.some.inj e)))
            clear hown hg
            refine hK.out _ _ ?_ ?_
            · exact .inr (HSX.out _ Belu39w.out)
            clear hK K
            simp only [Act.put, List.getElem_toArray, List.getElem_cons_succ, List.getElem_cons_zero, List.setIfInBounds_toArray, List.set_cons_zero, List.set_cons_succ]
            refine nextL (i := 7) (by kernel_rfl) rfl (by kernel_rfl) (fun K hK => ?_)
            refine wp_append_rd u39w (.tmp 53) (.tmp 55) 24 rfl 47 j0 _ 24 Try.underlying24 HJ.out.1 HJ.out.2.1 HJ.out.2.2.1 HJ.out.2.2.2 rfl fE wr.heap.size (.slice (some ⟨wr.heap.size, 0, none⟩) 0 0) [] E.funs rfl (e4_u39w.out.own0 (sz := 2) (Nat.le_refl _)) _ rfl (HRF.out u39w Belu39w.out) (by have := HLV.out.2.1; have := HLV.out.2.2; simp; omega) (by have := HLV.out.2.1; have := HLV.out.2.2; unfold maxLen; simp; omega) Belu39w.out.size E.funs (by simp) ?_
            intro q7 q7d u40w hown hg
            have O7_u40w := Lib.hid hown
            have Belu40w := Lib.hid (show Below wr.heap.size wr u40w from Belu39w.out.grown hg Belu39w.out.size (fun k hk => ((e4_u39w.out.own0 (sz := 2) (Nat.le_refl _)).lt k hk).1))
            have z9_u40w := Lib.hid (show Blk u40w u27w.heap.size (.cells #[.slice none 0 0, .slice none 0 0, .slice none 0 0] 26) from z9_u39w.out.grown hg (fun e => Blk.ne z9_u39w.out e4_u39w.out (by simp) (Option.some.inj e)))
            have O3_u40w := Lib.hid (show u40w.ownsRow wr.heap.size 44 2 (.slice q5 E.vars.length q5d) E.vars.length (E.vars.flatMap bC) from World.ownsRow.kept O3_u39w.out hg (.inr (own_apart O3_u39w.out e4_u39w.out (by decide))))
            clear hown hg
            refine hK.out _ _ ?_ ?_
            · exact .inr (HSX.out _ Belu40w.out)
            clear hK K
            simp only [Act.put, List.getElem_toArray, List.getElem_cons_succ, List.getElem_cons_zero, List.setIfInBounds_toArray, List.set_cons_zero, List.set_cons_succ]
            refine takeL (i := 8) (k := 57) (v := ?_) rfl (by kernel_rfl) (by kernel_rfl) (by kernel_rfl) (by kernel_rfl) (fun _ _ _ h => h) (by kernel_rfl) (by kernel_rfl) (by kernel_rfl) (by rfl) ?_ (HSX.out _ Belu40w.out) ?_
            rotate_left
            · intro w hSw; (try dsimp only at hSw); go_simp <;> (with_reducible rfl)
            simp only [List.setIfInBounds_toArray, List.set_cons_zero, List.set_cons_succ]
            have c0 := cell_of_row u40w _ 0 _ _ _ z9_u40w.out
            have c1 := cell_of_row u40w _ 1 _ _ _ z9_u40w.out
            have c2 := cell_of_row u40w _ 2 _ _ _ z9_u40w.out
            have y0 := frozen_of_row u40w _ 0 _ _ z9_u40w.out
            have y1 := frozen_of_row u40w _ 1 _ _ z9_u40w.out
            have y2 := frozen_of_row u40w _ 2 _ _ z9_u40w.out
            refine nextL (i := 10) (by kernel_rfl) rfl (by kernel_rfl) (fun K hK => ?_)
            go_simp
            refine hK.out _ _ ?_ ?_
            · exact .inl (by kernel_rfl)
            clear hK K
            refine doneL (by kernel_rfl) ?_ _
            have HE := Lib.hid (show EnvAt u40w (.agg #[.slice q5 E.vars.length q5d, .slice none 0 0, .slice q7 E.funs.length q7d]) E from ⟨_, _, _, rfl, Rd.of_own bE O3_u40w.out, (by rw [EA.out]; exact Rd.nil _ _ _), Rd.of_own fE O7_u40w.out⟩)
            have HV9 := Lib.hid ((Vr.zero z9_u40w.out).put HE.out)
            have HB9 := Lib.hid (env_set Belu40w.out (show wr.heap.size ≤ u27w.heap.size from Belu27w.out.size) (.slice q5 E.vars.length q5d) (.slice none 0 0) (.slice q7 E.funs.length q7d))
            go_wp2_with fail
            go_meet
            case rel => exact ⟨u27w.heap.size, rfl, HV9.out, HB9.out⟩
        · go_simp
          refine hK.out _ _ ?_ ?_
          · exact .inr (HSX.out _ (en_alloc (Below.refl _ _) _).drew)
          clear hK K
          obtain ⟨u41w, hu41w⟩ : ∃ W, (wr.alloc (.cells #[.slice none 0 0, .slice none 0 0, .slice none 0 0] 26)).drew = W := ⟨_, rfl⟩
          rw [hu41w]
          have z9_u41w := Lib.hid (show Blk u41w wr.heap.size (.cells #[.slice none 0 0, .slice none 0 0, .slice none 0 0] 26) by rw [← hu41w]; exact Blk.new rfl)
          have Belu41w := Lib.hid (show Below wr.heap.size wr u41w by rw [← hu41w]; exact (en_alloc (Below.refl _ _) _).drew)
          clear hu41w
          refine twoL (i := 0) (j := 4) (by kernel_rfl) rfl rfl (by kernel_rfl) (by kernel_rfl) (fun K hK => ?_) (fun K hK => ?_)
          · go_simp
            refine hK.out _ _ ?_ ?_
            · exact .inr (HSX.out _ (en_alloc Belu41w.out _))
            clear hK K
            obtain ⟨u42w, hu42w⟩ : ∃ W, u41w.alloc (.cells #[] 44) = W := ⟨_, rfl⟩
            rw [hu42w]
            have e0_u42w := Lib.hid (show Blk u42w u41w.heap.size (.cells #[] 44) by rw [← hu42w]; exact Blk.new rfl)
            have Belu42w := Lib.hid (show Below wr.heap.size wr u42w by rw [← hu42w]; exact (en_alloc Belu41w.out _))
            have z9_u42w := Lib.hid (show Blk u42w wr.heap.size (.cells #[.slice none 0 0, .slice none 0 0, .slice none 0 0] 26) by rw [← hu42w]; exact z9_u41w.out.alloc _)
            clear hu42w
            refine twoL (i := 3) (j := 4) (by kernel_rfl) rfl rfl (by kernel_rfl) (by kernel_rfl) (fun K hK => ?_) (fun K hK => ?_)
            · refine wp_append_rd u42w (.tmp 49) (.tmp 51) 22 rfl 44 i0 _ 32 Try.underlying22 HI.out.1 HI.out.2.1 HI.out.2.2.1 HI.out.2.2.2 rfl bE wr.heap.size (.slice (some ⟨u41w.heap.size, 0, none⟩) 0 0) [] E.vars rfl (e0_u42w.out.own0 (sz := 2) Belu41w.out.size) _ rfl (HRV.out u42w Belu42w.out) (by have := HLV.out.1; have := HLV.out.2.2; simp; omega) (by have := HLV.out.1; have := HLV.out.2.2; unfold maxLen; simp; omega) Belu42w.out.size E.vars (by simp) ?_
              intro q5 q5d u43w hown hg
              have O3_u43w := Lib.hid hown
              have Belu43w := Lib.hid (show Below wr.heap.size wr u43w from Belu42w.out.grown hg Belu42w.out.size (fun k hk => ((e0_u42w.out.own0 (sz := 2) Belu41w.out.size).lt k hk).1))
              have z9_u43w := Lib.hid (show Blk u43w wr.heap.size (.cells #[.slice none 0 0, .slice none 0 0, .slice none 0 0] 26) from z9_u42w.out.grown hg (fun e => Blk.ne z9_u42w.out e0_u42w.out (by simp) (Option.some.inj e)))
              clear hown hg
              refine hK.out _ _ ?_ ?_
              · exact .inr (HSX.out _ Belu43w.out)
              clear hK K
              simp only [Act.put, List.getElem_toArray, List.getElem_cons_succ, List.getElem_cons_zero, List.setIfInBounds_toArray, List.set_cons_zero, List.set_cons_succ]
              refine nextL (i := 4) (by kernel_rfl) rfl (by kernel_rfl) (fun K hK => ?_)
              go_simp
              refine hK.out _ _ ?_ ?_
              · exact .inr (HSX.out _ (en_alloc Belu43w.out _))
              clear hK K
              obtain ⟨u44w, hu44w⟩ : ∃ W, u43w.alloc (.cells #[] 47) = W := ⟨_, rfl⟩
              rw [hu44w]
              have e4_u44w := Lib.hid (show Blk u44w u43w.heap.size (.cells #[] 47) by rw [← hu44w]; exact Blk.new rfl)
              have Belu44w := Lib.hid (show Below wr.heap.size wr u44w by rw [← hu44w]; exact (en_alloc Belu43w.out _))
              have z9_u44w := Lib.hid (show Blk u44w wr.heap.size (.cells #[.slice none 0 0, .slice none 0 0, .slice none 0 0] 26) by rw [← hu44w]; exact z9_u43w.out.alloc _)
              have O3_u44w := Lib.hid (show u44w.ownsRow wr.heap.size 44 2 (.slice q5 E.vars.length q5d) E.vars.length (E.vars.flatMap bC) by rw [← hu44w]; exact O3_u43w.out.alloc _)
              clear hu44w
              refine nextL (i := 7) (by kernel_rfl) rfl (by kernel_rfl) (fun K hK => ?_)
              refine wp_append_rd u44w (.tmp 53) (.tmp 55) 24 rfl 47 j0 _ 24 Try.underlying24 HJ.out.1 HJ.out.2.1 HJ.out.2.2.1 HJ.out.2.2.2 rfl fE wr.heap.size (.slice (some ⟨u43w.heap.size, 0, none⟩) 0 0) [] E.funs rfl (e4_u44w.out.own0 (sz := 2) Belu43w.out.size) _ rfl (HRF.out u44w Belu44w.out) (by have := HLV.out.2.1; have := HLV.out.2.2; simp; omega) (by have := HLV.out.2.1; have := HLV.out.2.2; unfold maxLen; simp; omega) Belu44w.out.size E.funs (by simp) ?_
              intro q7 q7d u45w hown hg
              have O7_u45w := Lib.hid hown
              have Belu45w := Lib.hid (show Below wr.heap.size wr u45w from Belu44w.out.grown hg Belu44w.out.size (fun k hk => ((e4_u44w.out.own0 (sz := 2) Belu43w.out.size).lt k hk).1))
              have z9_u45w := Lib.hid (show Blk u45w wr.heap.size (.cells #[.slice none 0 0, .slice none 0 0, .slice none 0 0] 26) from z9_u44w.out.grown hg (fun e => Blk.ne z9_u44w.out e4_u44w.out (by simp) (Option.some.inj e)))
              have O3_u45w := Lib.hid (show u45w.ownsRow wr.heap.size 44 2 (.slice q5 E.vars.length q5d) E.vars.length (E.vars.flatMap bC) from World.ownsRow.kept O3_u44w.out hg (.inr (own_apart O3_u44w.out e4_u44w.out (by decide))))
              clear hown hg
              refine hK.out _ _ ?_ ?_
              · exact .inr (HSX.out _ Belu45w.out)
              clear hK K
              simp only [Act.put, List.getElem_toArray, List.getElem_cons_succ, List.getElem_cons_zero, List.setIfInBounds_toArray, List.set_cons_zero, List.set_cons_succ]
              refine takeL (i := 8) (k := 57) (v := ?_) rfl (by kernel_rfl) (by kernel_rfl) (by kernel_rfl) (by kernel_rfl) (fun _ _ _ h => h) (by kernel_rfl) (by kernel_rfl) (by kernel_rfl) (by rfl) ?_ (HSX.out _ Belu45w.out) ?_
              rotate_left
              · intro w hSw; (try dsimp only at hSw); go_simp <;> (with_reducible rfl)
              simp only [List.setIfInBounds_toArray, List.set_cons_zero, List.set_cons_succ]
              have c0 := cell_of_row u45w _ 0 _ _ _ z9_u45w.out
              have c1 := cell_of_row u45w _ 1 _ _ _ z9_u45w.out
              have c2 := cell_of_row u45w _ 2 _ _ _ z9_u45w.out
              have y0 := frozen_of_row u45w _ 0 _ _ z9_u45w.out
              have y1 := frozen_of_row u45w _ 1 _ _ z9_u45w.out
              have y2 := frozen_of_row u45w _ 2 _ _ z9_u45w.out
              refine nextL (i := 10) (by kernel_rfl) rfl (by kernel_rfl) (fun K hK => ?_)
              go_simp
              refine hK.out _ _ ?_ ?_
              · exact .inl (by kernel_rfl)
              clear hK K
              refine doneL (by kernel_rfl) ?_ _
              have HE := Lib.hid (show EnvAt u45w (.agg #[.slice q5 E.vars.length q5d, .slice none 0 0, .slice q7 E.funs.length q7d]) E from ⟨_, _, _, rfl, Rd.of_own bE O3_u45w.out, (by rw [EA.out]; exact Rd.nil _ _ _), Rd.of_own fE O7_u45w.out⟩)
              have HV9 := Lib.hid ((Vr.zero z9_u45w.out).put HE.out)
              have HB9 := Lib.hid (env_set Belu45w.out (show wr.heap.size ≤ wr.heap.size from (Nat.le_refl _)) (.slice q5 E.vars.length q5d) (.slice none 0 0) (.slice q7 E.funs.length q7d))
              go_wp2_with fail
              go_meet
              case rel => exact ⟨wr.heap.size, rfl, HV9.out, HB9.out⟩
            · go_simp
              refine hK.out _ _ ?_ ?_
              · exact .inr (HSX.out _ (en_alloc Belu42w.out _))
              clear hK K
              obtain ⟨u46w, hu46w⟩ : ∃ W, u42w.alloc (.cells #[] 47) = W := ⟨_, rfl⟩
              rw [hu46w]
              have e4_u46w := Lib.hid (show Blk u46w u42w.heap.size (.cells #[] 47) by rw [← hu46w]; exact Blk.new rfl)
              have Belu46w := Lib.hid (show Below wr.heap.size wr u46w by rw [← hu46w]; exact (en_alloc Belu42w.out _))
              have z9_u46w := Lib.hid (show Blk u46w wr.heap.size (.cells #[.slice none 0 0, .slice none 0 0, .slice none 0 0] 26) by rw [← hu46w]; exact z9_u42w.out.alloc _)
              have e0_u46w := Lib.hid (show Blk u46w u41w.heap.size (.cells #[] 44) by rw [← hu46w]; exact e0_u42w.out.alloc _)
              clear hu46w
              refine nextL (i := 3) (by kernel_rfl) rfl (by kernel_rfl) (fun K hK => ?_)
              refine wp_append_rd u46w (.tmp 49) (.tmp 51) 22 rfl 44 i0 _ 32 Try.underlying22 HI.out.1 HI.out.2.1 HI.out.2.2.1 HI.out.2.2.2 rfl bE wr.heap.size (.slice (some ⟨u41w.heap.size, 0, none⟩) 0 0) [] E.vars rfl (e0_u46w.out.own0 (sz := 2) Belu41w.out.size) _ rfl (HRV.out u46w Belu46w.out) (by have := HLV.out.1; have := HLV.out.2.2; simp; omega) (by have := HLV.out.1; have := HLV.out.2.2; unfold maxLen; simp; omega) Belu46w.out.size E.vars (by simp) ?_
              intro q5 q5d u47w hown hg
              have O3_u47w := Lib.hid hown
              have Belu47w := Lib.hid (show Below wr.heap.size wr u47w from Belu46w.out.grown hg Belu46w.out.size (fun k hk => ((e0_u46w.out.own0 (sz := 2) Belu41w.out.size).lt k hk).1))
              have z9_u47w := Lib.hid (show Blk u47w wr.heap.size (.cells #[.slice none 0 0, .slice none 0 0, .slice none 0 0] 26) from z9_u46w.out.grown hg (fun e => Blk.ne z9_u46w.out e0_u46w.out (by simp) (Option.some.inj e)))
              have e4_u47w := Lib.hid (show Blk u47w u42w.heap.size (.cells #[] 47) from e4_u46w.out.grown hg (fun e => Blk.ne e4_u46w.out e0_u46w.out (by simp) (Option.some.inj e)))
              clear hown hg
              refine hK.out _ _ ?_ ?_
              · exact .inr (HSX.out _ Belu47w.out)
              clear hK K
              simp only [Act.put, List.getElem_toArray, List.getElem_cons_succ, List.getElem_cons_zero, List.setIfInBounds_toArray, List.set_cons_zero, List.set_cons_succ]
              refine nextL (i := 7) (by kernel_rfl) rfl (by kernel_rfl) (fun K hK => ?_)
              refine wp_append_rd u47w (.tmp 53) (.tmp 55) 24 rfl 47 j0 _ 24 Try.underlying24 HJ.out.1 HJ.out.2.1 HJ.out.2.2.1 HJ.out.2.2.2 rfl fE wr.heap.size (.slice (some ⟨u42w.heap.size, 0, none⟩) 0 0) [] E.funs rfl (e4_u47w.out.own0 (sz := 2) Belu42w.out.size) _ rfl (HRF.out u47w Belu47w.out) (by have := HLV.out.2.1; have := HLV.out.2.2; simp; omega) (by have := HLV.out.2.1; have := HLV.out.2.2; unfold maxLen; simp; omega) Belu47w.out.size E.funs (by simp) ?_
              intro q7 q7d u48w hown hg
              have O7_u48w := Lib.hid hown
              have Belu48w := Lib.hid (show Below wr.heap.size wr u48w from Belu47w.out.grown hg Belu47w.out.size (fun k hk => ((e4_u47w.out.own0 (sz := 2) Belu42w.out.size).lt k hk).1))
              have z9_u48w := Lib.hid (show Blk u48w wr.heap.size (.cells #[.slice none 0 0, .slice none 0 0, .slice none 0 0] 26) from z9_u47w.out.grown hg (fun e => Blk.ne z9_u47w.out e4_u47w.out (by simp) (Option.some.inj e)))
              have O3_u48w := Lib.hid (show u48w.ownsRow wr.heap.size 44 2 (.slice q5 E.vars.length q5d) E.vars.length (E.vars.flatMap bC) from World.ownsRow.kept O3_u47w.out hg (.inr (own_apart O3_u47w.out e4_u47w.out (by decide))))
              clear hown hg
              refine hK.out _ _ ?_ ?_
              · exact .inr (HSX.out _ Belu48w.out)
              clear hK K
              simp only [Act.put, List.getElem_toArray, List.getElem_cons_succ, List.getElem_cons_zero, List.setIfInBounds_toArray, List.set_cons_zero, List.set_cons_succ]
              refine takeL (i := 8) (k := 57) (v := ?_) rfl (by kernel_rfl) (by kernel_rfl) (by kernel_rfl) (by kernel_rfl) (fun _ _ _ h => h) (by kernel_rfl) (by kernel_rfl) (by kernel_rfl) (by rfl) ?_ (HSX.out _ Belu48w.out) ?_
              rotate_left
              · intro w hSw; (try dsimp only at hSw); go_simp <;> (with_reducible rfl)
              simp only [List.setIfInBounds_toArray, List.set_cons_zero, List.set_cons_succ]
              have c0 := cell_of_row u48w _ 0 _ _ _ z9_u48w.out
              have c1 := cell_of_row u48w _ 1 _ _ _ z9_u48w.out
              have c2 := cell_of_row u48w _ 2 _ _ _ z9_u48w.out
              have y0 := frozen_of_row u48w _ 0 _ _ z9_u48w.out
              have y1 := frozen_of_row u48w _ 1 _ _ z9_u48w.out
              have y2 := frozen_of_row u48w _ 2 _ _ z9_u48w.out
              refine nextL (i := 10) (by kernel_rfl) rfl (by kernel_rfl) (fun K hK => ?_)
              go_simp
              refine hK.out _ _ ?_ ?_
              · exact .inl (by kernel_rfl)
              clear hK K
              refine doneL (by kernel_rfl) ?_ _
              have HE := Lib.hid (show EnvAt u48w (.agg #[.slice q5 E.vars.length q5d, .slice none 0 0, .slice q7 E.funs.length q7d]) E from ⟨_, _, _, rfl, Rd.of_own bE O3_u48w.out, (by rw [EA.out]; exact Rd.nil _ _ _), Rd.of_own fE O7_u48w.out⟩)
              have HV9 := Lib.hid ((Vr.zero z9_u48w.out).put HE.out)
              have HB9 := Lib.hid (env_set Belu48w.out (show wr.heap.size ≤ wr.heap.size from (Nat.le_refl _)) (.slice q5 E.vars.length q5d) (.slice none 0 0) (.slice q7 E.funs.length q7d))
              go_wp2_with fail
              go_meet
              case rel => exact ⟨wr.heap.size, rfl, HV9.out, HB9.out⟩
          · go_simp
            refine hK.out _ _ ?_ ?_
            · exact .inr (HSX.out _ (en_alloc Belu41w.out _))
            clear hK K
            obtain ⟨u49w, hu49w⟩ : ∃ W, u41w.alloc (.cells #[] 47) = W := ⟨_, rfl⟩
            rw [hu49w]
            have e4_u49w := Lib.hid (show Blk u49w u41w.heap.size (.cells #[] 47) by rw [← hu49w]; exact Blk.new rfl)
            have Belu49w := Lib.hid (show Below wr.heap.size wr u49w by rw [← hu49w]; exact (en_alloc Belu41w.out _))
            have z9_u49w := Lib.hid (show Blk u49w wr.heap.size (.cells #[.slice none 0 0, .slice none 0 0, .slice none 0 0] 26) by rw [← hu49w]; exact z9_u41w.out.alloc _)
            clear hu49w
            refine nextL (i := 0) (by kernel_rfl) rfl (by kernel_rfl) (fun K hK => ?_)
            go_simp
            refine hK.out _ _ ?_ ?_
            · exact .inr (HSX.out _ (en_alloc Belu49w.out _))
            clear hK K
            obtain ⟨u50w, hu50w⟩ : ∃ W, u49w.alloc (.cells #[] 44) = W := ⟨_, rfl⟩
            rw [hu50w]
            have e0_u50w := Lib.hid (show Blk u50w u49w.heap.size (.cells #[] 44) by rw [← hu50w]; exact Blk.new rfl)
            have Belu50w := Lib.hid (show Below wr.heap.size wr u50w by rw [← hu50w]; exact (en_alloc Belu49w.out _))
            have z9_u50w := Lib.hid (show Blk u50w wr.heap.size (.cells #[.slice none 0 0, .slice none 0 0, .slice none 0 0] 26) by rw [← hu50w]; exact z9_u49w.out.alloc _)
            have e4_u50w := Lib.hid (show Blk u50w u41w.heap.size (.cells #[] 47) by rw [← hu50w]; exact e4_u49w.out.alloc _)
            clear hu50w
            refine nextL (i := 3) (by kernel_rfl) rfl (by kernel_rfl) (fun K hK => ?_)
            refine wp_append_rd u50w (.tmp 49) (.tmp 51) 22 rfl 44 i0 _ 32 Try.underlying22 HI.out.1 HI.out.2.1 HI.out.2.2.1 HI.out.2.2.2 rfl bE wr.heap.size (.slice (some ⟨u49w.heap.size, 0, none⟩) 0 0) [] E.vars rfl (e0_u50w.out.own0 (sz := 2) Belu49w.out.size) _ rfl (HRV.out u50w Belu50w.out) (by have := HLV.out.1; have := HLV.out.2.2; simp; omega) (by have := HLV.out.1; have := HLV.out.2.2; unfold maxLen; simp; omega) Belu50w.out.size E.vars (by simp) ?_
            intro q5 q5d u51w hown hg
            have O3_u51w := Lib.hid hown
            have Belu51w := Lib.hid (show Below wr.heap.size wr u51w from Belu50w.out.grown hg Belu50w.out.size (fun k hk => ((e0_u50w.out.own0 (sz := 2) Belu49w.out.size).lt k hk).1))
            have z9_u51w := Lib.hid (show Blk u51w wr.heap.size (.cells #[.slice none 0 0, .slice none 0 0, .slice none 0 0] 26) from z9_u50w.out.grown hg (fun e => Blk.ne z9_u50w.out e0_u50w.out (by simp) (Option.some.inj e)))
            have e4_u51w := Lib.hid (show Blk u51w u41w.heap.size (.cells #[] 47) from e4_u50w.out.grown hg (fun e => Blk.ne e4_u50w.out e0_u50w.out (by simp) (Option.some.inj e)))
            clear hown hg
            refine hK.out _ _ ?_ ?_
            · exact .inr (HSX.out _ Belu51w.out)
            clear hK K
            simp only [Act.put, List.getElem_toArray, List.getElem_cons_succ, List.getElem_cons_zero, List.setIfInBounds_toArray, List.set_cons_zero, List.set_cons_succ]
            refine nextL (i := 7) (by kernel_rfl) rfl (by kernel_rfl) (fun K hK => ?_)
            refine wp_append_rd u51w (.tmp 53) (.tmp 55) 24 rfl 47 j0 _ 24 Try.underlying24 HJ.out.1 HJ.out.2.1 HJ.out.2.2.1 HJ.out.2.2.2 rfl fE wr.heap.size (.slice (some ⟨u41w.heap.size, 0, none⟩) 0 0) [] E.funs rfl (e4_u51w.out.own0 (sz := 2) Belu41w.out.size) _ rfl (HRF.out u51w Belu51w.out) (by have := HLV.out.2.1; have := HLV.out.2.2; simp; omega) (by have := HLV.out.2.1; have := HLV.out.2.2; unfold maxLen; simp; omega) Belu51w.out.size E.funs (by simp) ?_
            intro q7 q7d u52w hown hg
            have O7_u52w := Lib.hid hown
            have Belu52w := Lib.hid (show Below wr.heap.size wr u52w from Belu51w.out.grown hg Belu51w.out.size (fun k hk => ((e4_u51w.out.own0 (sz := 2) Belu41w.out.size).lt k hk).1))
            have z9_u52w := Lib.hid (show Blk u52w wr.heap.size (.cells #[.slice none 0 0, .slice none 0 0, .slice none 0 0] 26) from z9_u51w.out.grown hg (fun e => Blk.ne z9_u51w.out e4_u51w.out (by simp) (Option.some.inj e)))
            have O3_u52w := Lib.hid (show u52w.ownsRow wr.heap.size 44 2 (.slice q5 E.vars.length q5d) E.vars.length (E.vars.flatMap bC) from World.ownsRow.kept O3_u51w.out hg (.inr (own_apart O3_u51w.out e4_u51w.out (by decide))))
            clear hown hg
            refine hK.out _ _ ?_ ?_
            · exact .inr (HSX.out _ Belu52w.out)
            clear hK K
            simp only [Act.put, List.getElem_toArray, List.getElem_cons_succ, List.getElem_cons_zero, List.setIfInBounds_toArray, List.set_cons_zero, List.set_cons_succ]
            refine takeL (i := 8) (k := 57) (v := ?_) rfl (by kernel_rfl) (by kernel_rfl) (by kernel_rfl) (by kernel_rfl) (fun _ _ _ h => h) (by kernel_rfl) (by kernel_rfl) (by kernel_rfl) (by rfl) ?_ (HSX.out _ Belu52w.out) ?_
            rotate_left
            · intro w hSw; (try dsimp only at hSw); go_simp <;> (with_reducible rfl)
            simp only [List.setIfInBounds_toArray, List.set_cons_zero, List.set_cons_succ]
            have c0 := cell_of_row u52w _ 0 _ _ _ z9_u52w.out
            have c1 := cell_of_row u52w _ 1 _ _ _ z9_u52w.out
            have c2 := cell_of_row u52w _ 2 _ _ _ z9_u52w.out
            have y0 := frozen_of_row u52w _ 0 _ _ z9_u52w.out
            have y1 := frozen_of_row u52w _ 1 _ _ z9_u52w.out
            have y2 := frozen_of_row u52w _ 2 _ _ z9_u52w.out
            refine nextL (i := 10) (by kernel_rfl) rfl (by kernel_rfl) (fun K hK => ?_)
            go_simp
            refine hK.out _ _ ?_ ?_
            · exact .inl (by kernel_rfl)
            clear hK K
            refine doneL (by kernel_rfl) ?_ _
            have HE := Lib.hid (show EnvAt u52w (.agg #[.slice q5 E.vars.length q5d, .slice none 0 0, .slice q7 E.funs.length q7d]) E from ⟨_, _, _, rfl, Rd.of_own bE O3_u52w.out, (by rw [EA.out]; exact Rd.nil _ _ _), Rd.of_own fE O7_u52w.out⟩)
            have HV9 := Lib.hid ((Vr.zero z9_u52w.out).put HE.out)
            have HB9 := Lib.hid (env_set Belu52w.out (show wr.heap.size ≤ wr.heap.size from (Nat.le_refl _)) (.slice q5 E.vars.length q5d) (.slice none 0 0) (.slice q7 E.funs.length q7d))
            go_wp2_with fail
            go_meet
            case rel => exact ⟨wr.heap.size, rfl, HV9.out, HB9.out⟩
      case rest =>
        obtain ⟨g9, rfl, hv9, hbc⟩ := hcut
        have V9 := Lib.hid hv9
        have VXc := Lib.hid (VX.out.below hbc)
        have AAc := Lib.hid (AA.out.below hbc)
        have ABc := Lib.hid (AB.out.below hbc)
        have BC := Lib.hid (BW.out.trans (hbc.mono BW.out.size))
        have hlv := HLV.out
        have hfit : Fit E := FI.out.fit (show k ≤ 100 by omega)
        have hfx : Fit { E with vars := setM E.vars a.name a.value } := ⟨by have := set_len E.vars a.name a.value; dsimp only; omega, hfit.2.1, hfit.2.2⟩
        have hfy : Fit { E with vars := setM E.vars b.name b.value } := ⟨by have := set_len E.vars b.name b.value; dsimp only; omega, hfit.2.1, hfit.2.2⟩
        obtain ⟨x1, m1, d1, x2, m2, d2, x3, m3, d3, ⟨k0, k1, k2⟩, -, ex⟩ := VXc.out.cells
        obtain ⟨-, a1, a2, a3⟩ := AAc.out.cells
        obtain ⟨-, b1, b2, b3⟩ := ABc.out.cells
        have HS := Lib.hid (fun (W : World) (hW : Below wc.heap.size wc W) => (show (fun V => (V.cell? ⟨X7, 0, none⟩ = some (.slice x1 m1 d1) ∧ V.cell? ⟨X7, 1, none⟩ = some (.slice x2 m2 d2) ∧ V.cell? ⟨X7, 2, none⟩ = some (.slice x3 m3 d3)) ∧ (V.cell? ⟨XA, 1, none⟩ = some (.string a.name) ∧ V.cell? ⟨XA, 2, none⟩ = some (.string a.value)) ∧ V.cell? ⟨XB, 1, none⟩ = some (.string b.name) ∧ V.cell? ⟨XB, 2, none⟩ = some (.string b.value)) W from ⟨⟨(hW.cell (p := ⟨X7, 0, none⟩) VXc.out.lt).trans k0, (hW.cell (p := ⟨X7, 1, none⟩) VXc.out.lt).trans k1, (hW.cell (p := ⟨X7, 2, none⟩) VXc.out.lt).trans k2⟩, ⟨(hW.cell (p := ⟨XA, 1, none⟩) AAc.out.lt).trans a1, (hW.cell (p := ⟨XA, 2, none⟩) AAc.out.lt).trans a2⟩, (hW.cell (p := ⟨XB, 1, none⟩) ABc.out.lt).trans b1, (hW.cell (p := ⟨XB, 2, none⟩) ABc.out.lt).trans b2⟩))
        have HCa := Lib.hid (fun (W : World) (hW : Below wc.heap.size wc W) => set_any a.name a.value _ W (ex.below hW (Nat.le_refl _)) hfit FI.out.vars)
        have HCb := Lib.hid (fun (W : World) (hW : Below wc.heap.size wc W) => set_any b.name b.value _ W (ex.below hW (Nat.le_refl _)) hfit FI.out.vars)
        have HFF := Lib.hid (And.intro hfit (And.intro hfx hfy))
        obtain ⟨EX, hEX⟩ : ∃ EX : Ev, EX = { E with vars := setM E.vars a.name a.value } := ⟨_, rfl⟩
        obtain ⟨EY, hEY⟩ : ∃ EY : Ev, EY = { E with vars := setM E.vars b.name b.value } := ⟨_, rfl⟩
        rw [← hEX] at HCa
        rw [← hEY] at HCb
        have HEE := Lib.hid (And.intro hEX hEY)
        clear hv9 hbc hlv hfit hfx hfy k0 k1 k2 a1 a2 a3 b1 b2 b3 ex hEX hEY HRV HRF HSX HLV HI HJ VX AA AB
        go_upto_region 9 with fail
        go_cut [10, 11] from 58 to 69 (fun v10 v11 wx => ∃ g h, v10 = .pointer (some ⟨g, 0, none⟩) ∧ v11 = .pointer (some ⟨h, 0, none⟩) ∧ Vr wx g EX ∧ Vr wx h EY ∧ Below wc.heap.size wc wx)
        case first =>
          refine regionL (S := fun V => (V.cell? ⟨X7, 0, none⟩ = some (.slice x1 m1 d1) ∧ V.cell? ⟨X7, 1, none⟩ = some (.slice x2 m2 d2) ∧ V.cell? ⟨X7, 2, none⟩ = some (.slice x3 m3 d3)) ∧ (V.cell? ⟨XA, 1, none⟩ = some (.string a.name) ∧ V.cell? ⟨XA, 2, none⟩ = some (.string a.value)) ∧ V.cell? ⟨XB, 1, none⟩ = some (.string b.name) ∧ V.cell? ⟨XB, 2, none⟩ = some (.string b.value)) (L := 14) (by kernel_rfl) ?_ (fun hHeld => ?_)
          · exact HS.out wc.drew (Below.refl _ _).drew
          refine takeL (i := 0) (k := 58) (v := ?_) rfl (by kernel_rfl) (by kernel_rfl) (by kernel_rfl) (by kernel_rfl) (fun _ _ _ h => h) (by kernel_rfl) (by kernel_rfl) (by kernel_rfl) (by rfl) ?_ (by assumption) ?_
          rotate_left
          · intro w hSw; (try dsimp only at hSw); go_simp <;> (with_reducible rfl)
          simp only [List.setIfInBounds_toArray, List.set_cons_zero, List.set_cons_succ]
          refine takeL (i := 1) (k := 59) (v := ?_) rfl (by kernel_rfl) (by kernel_rfl) (by kernel_rfl) (by kernel_rfl) (fun _ _ _ h => h) (by kernel_rfl) (by kernel_rfl) (by kernel_rfl) (by rfl) ?_ (by assumption) ?_
          rotate_left
          · intro w hSw; (try dsimp only at hSw); go_simp <;> (with_reducible rfl)
          simp only [List.setIfInBounds_toArray, List.set_cons_zero, List.set_cons_succ]
          refine takeL (i := 2) (k := 60) (v := ?_) rfl (by kernel_rfl) (by kernel_rfl) (by kernel_rfl) (by kernel_rfl) (fun _ _ _ h => h) (by kernel_rfl) (by kernel_rfl) (by kernel_rfl) (by rfl) ?_ (by assumption) ?_
          rotate_left
          · intro w hSw; (try dsimp only at hSw); go_simp <;> (with_reducible rfl)
          simp only [List.setIfInBounds_toArray, List.set_cons_zero, List.set_cons_succ]
          refine takeL (i := 3) (k := 61) (v := ?_) rfl (by kernel_rfl) (by kernel_rfl) (by kernel_rfl) (by kernel_rfl) (fun _ _ _ h => h) (by kernel_rfl) (by kernel_rfl) (by kernel_rfl) (by rfl) ?_ (by assumption) ?_
          rotate_left
          · intro w hSw; (try dsimp only at hSw); go_simp <;> (with_reducible rfl)
          simp only [List.setIfInBounds_toArray, List.set_cons_zero, List.set_cons_succ]
          refine takeL (i := 4) (k := 62) (v := ?_) rfl (by kernel_rfl) (by kernel_rfl) (by kernel_rfl) (by kernel_rfl) (fun _ _ _ h => h) (by kernel_rfl) (by kernel_rfl) (by kernel_rfl) (by rfl) ?_ (by assumption) ?_
          rotate_left
          · intro w hSw; (try dsimp only at hSw); go_simp <;> (with_reducible rfl)
          simp only [List.setIfInBounds_toArray, List.set_cons_zero, List.set_cons_succ]
          refine takeM (i := 6) (k := 64) [11] (v := ?_) rfl (by kernel_rfl) (by kernel_rfl) (by kernel_rfl) (by kernel_rfl) (fun _ _ _ h => h) (by kernel_rfl) (by kernel_rfl) (by kernel_rfl) (by kernel_rfl) (by kernel_rfl) (by rfl) ?_ (by assumption) ?_
          rotate_left
          · intro w hSw; (try dsimp only at hSw); go_simp <;> (with_reducible rfl)
          simp only [List.setIfInBounds_toArray, List.set_cons_zero, List.set_cons_succ]
          refine takeM (i := 7) (k := 65) [8, 11] (v := ?_) rfl (by kernel_rfl) (by kernel_rfl) (by kernel_rfl) (by kernel_rfl) (fun _ _ _ h => h) (by kernel_rfl) (by kernel_rfl) (by kernel_rfl) (by kernel_rfl) (by kernel_rfl) (by rfl) ?_ (by assumption) ?_
          rotate_left
          · intro w hSw; (try dsimp only at hSw); go_simp <;> (with_reducible rfl)
          simp only [List.setIfInBounds_toArray, List.set_cons_zero, List.set_cons_succ]
          refine takeM (i := 8) (k := 66) [11] (v := ?_) rfl (by kernel_rfl) (by kernel_rfl) (by kernel_rfl) (by kernel_rfl) (fun _ _ _ h => h) (by kernel_rfl) (by kernel_rfl) (by kernel_rfl) (by kernel_rfl) (by kernel_rfl) (by rfl) ?_ (by assumption) ?_
          rotate_left
          · intro w hSw; (try dsimp only at hSw); go_simp <;> (with_reducible rfl)
          simp only [List.setIfInBounds_toArray, List.set_cons_zero, List.set_cons_succ]
          refine takeM (i := 9) (k := 67) [10, 11] (v := ?_) rfl (by kernel_rfl) (by kernel_rfl) (by kernel_rfl) (by kernel_rfl) (fun _ _ _ h => h) (by kernel_rfl) (by kernel_rfl) (by kernel_rfl) (by kernel_rfl) (by kernel_rfl) (by rfl) ?_ (by assumption) ?_
          rotate_left
          · intro w hSw; (try dsimp only at hSw); go_simp <;> (with_reducible rfl)
          simp only [List.setIfInBounds_toArray, List.set_cons_zero, List.set_cons_succ]
          refine takeM (i := 10) (k := 68) [11] (v := ?_) rfl (by kernel_rfl) (by kernel_rfl) (by kernel_rfl) (by kernel_rfl) (fun _ _ _ h => h) (by kernel_rfl) (by kernel_rfl) (by kernel_rfl) (by kernel_rfl) (by kernel_rfl) (by rfl) ?_ (by assumption) ?_
          rotate_left
          · intro w hSw; (try dsimp only at hSw); go_simp <;> (with_reducible rfl)
          simp only [List.setIfInBounds_toArray, List.set_cons_zero, List.set_cons_succ]
          clear hHeld
          refine threeL (i := 5) (j := 12) (k := 13) (by kernel_rfl) rfl rfl rfl (by kernel_rfl) (by kernel_rfl) (by kernel_rfl) (fun K hK => ?_) (fun K hK => ?_) (fun K hK => ?_)
          · go_simp
            go_wp2_with (go_at_call 9; (refine (HCa.out _ (Below.refl _ _).drew).mono ?_); rintro e u53w ⟨v5, rfl, he, hb⟩; obtain ⟨g1, gs1, gh1, g2, gs2, gh2, g3, gs3, gh3, rfl⟩ := he.bare; have Ea_u53w := Lib.hid he; have Belu53w := Lib.hid (show Below wc.heap.size wc u53w from (Below.refl _ wc).drew.trans hb); clear he hb)
            refine hK.out _ _ ?_ ?_
            · exact .inr (HS.out _ Belu53w.out)
            clear hK K
            refine threeL (i := 11) (j := 12) (k := 13) (by kernel_rfl) rfl rfl rfl (by kernel_rfl) (by kernel_rfl) (by kernel_rfl) (fun K hK => ?_) (fun K hK => ?_) (fun K hK => ?_)
            · go_simp
              go_wp2_with (go_at_call 9; (refine (HCb.out _ Belu53w.out).mono ?_); rintro e u54w ⟨v5, rfl, he, hb⟩; obtain ⟨j1, js1, jh1, j2, js2, jh2, j3, js3, jh3, rfl⟩ := he.bare; have Eb_u54w := Lib.hid he; have Belu54w := Lib.hid (show Below wc.heap.size wc u54w from en_trans Belu53w.out hb); have Ea_u54w := Lib.hid (show EnvAt u54w (.agg #[.slice g1 gs1 gh1, .slice g2 gs2 gh2, .slice g3 gs3 gh3]) EX from Ea_u53w.out.below hb (Nat.le_refl _)); clear he hb)
              refine hK.out _ _ ?_ ?_
              · exact .inr (HS.out _ Belu54w.out)
              clear hK K
              refine twoL (i := 12) (j := 13) (by kernel_rfl) rfl rfl (by kernel_rfl) (by kernel_rfl) (fun K hK => ?_) (fun K hK => ?_)
              · go_simp
                refine hK.out _ _ ?_ ?_
                · exact .inr (HS.out _ (en_alloc Belu54w.out _))
                clear hK K
                obtain ⟨u55w, hu55w⟩ : ∃ W, u54w.alloc (.cells #[.slice none 0 0, .slice none 0 0, .slice none 0 0] 26) = W := ⟨_, rfl⟩
                rw [hu55w]
                have z10_u55w := Lib.hid (show Blk u55w u54w.heap.size (.cells #[.slice none 0 0, .slice none 0 0, .slice none 0 0] 26) by rw [← hu55w]; exact Blk.new rfl)
                have Belu55w := Lib.hid (show Below wc.heap.size wc u55w by rw [← hu55w]; exact (en_alloc Belu54w.out _))
                have Ea_u55w := Lib.hid (show EnvAt u55w (.agg #[.slice g1 gs1 gh1, .slice g2 gs2 gh2, .slice g3 gs3 gh3]) EX by rw [← hu55w]; exact Ea_u54w.out.below (en_alloc (Below.refl _ _) _) (Nat.le_refl _))
                have Eb_u55w := Lib.hid (show EnvAt u55w (.agg #[.slice j1 js1 jh1, .slice j2 js2 jh2, .slice j3 js3 jh3]) EY by rw [← hu55w]; exact Eb_u54w.out.below (en_alloc (Below.refl _ _) _) (Nat.le_refl _))
                clear hu55w
                refine nextL (i := 13) (by kernel_rfl) rfl (by kernel_rfl) (fun K hK => ?_)
                go_simp
                refine hK.out _ _ ?_ ?_
                · exact .inr (HS.out _ (en_alloc Belu55w.out _))
                clear hK K
                obtain ⟨u56w, hu56w⟩ : ∃ W, u55w.alloc (.cells #[.slice none 0 0, .slice none 0 0, .slice none 0 0] 26) = W := ⟨_, rfl⟩
                rw [hu56w]
                have z11_u56w := Lib.hid (show Blk u56w u55w.heap.size (.cells #[.slice none 0 0, .slice none 0 0, .slice none 0 0] 26) by rw [← hu56w]; exact Blk.new rfl)
                have Belu56w := Lib.hid (show Below wc.heap.size wc u56w by rw [← hu56w]; exact (en_alloc Belu55w.out _))
                have z10_u56w := Lib.hid (show Blk u56w u54w.heap.size (.cells #[.slice none 0 0, .slice none 0 0, .slice none 0 0] 26) by rw [← hu56w]; exact z10_u55w.out.alloc _)
                have Ea_u56w := Lib.hid (show EnvAt u56w (.agg #[.slice g1 gs1 gh1, .slice g2 gs2 gh2, .slice g3 gs3 gh3]) EX by rw [← hu56w]; exact Ea_u55w.out.below (en_alloc (Below.refl _ _) _) (Nat.le_refl _))
                have Eb_u56w := Lib.hid (show EnvAt u56w (.agg #[.slice j1 js1 jh1, .slice j2 js2 jh2, .slice j3 js3 jh3]) EY by rw [← hu56w]; exact Eb_u55w.out.below (en_alloc (Below.refl _ _) _) (Nat.le_refl _))
                have NE := Lib.hid (show u54w.heap.size ≠ u55w.heap.size from Nat.ne_of_lt z10_u55w.out.lt)
                clear hu56w
                have c0 := cell_of_row u56w _ 0 _ _ _ z10_u56w.out
                have c1 := cell_of_row u56w _ 1 _ _ _ z10_u56w.out
                have c2 := cell_of_row u56w _ 2 _ _ _ z10_u56w.out
                have y0 := frozen_of_row u56w _ 0 _ _ z10_u56w.out
                have y1 := frozen_of_row u56w _ 1 _ _ z10_u56w.out
                have y2 := frozen_of_row u56w _ 2 _ _ z10_u56w.out
                refine nextL (i := 14) (by kernel_rfl) rfl (by kernel_rfl) (fun K hK => ?_)
                go_simp
                refine hK.out _ _ ?_ ?_
                · exact .inl (by kernel_rfl)
                clear hK K
                have hne : u54w.heap.size ≠ u55w.heap.size := NE.out
                have V10 := (Vr.zero z10_u56w.out).put Ea_u56w.out
                have V11 := (Vr.zero z10_u56w.out).far (Vr.zero z11_u56w.out) hne (.slice g1 gs1 gh1) (.slice g2 gs2 gh2) (.slice g3 gs3 gh3)
                have E67 := Eb_u56w.out.put z10_u56w.out (.slice g1 gs1 gh1) (.slice g2 gs2 gh2) (.slice g3 gs3 gh3)
                have B7 := env_set Belu56w.out (show wc.heap.size ≤ u54w.heap.size from Belu54w.out.size) (.slice g1 gs1 gh1) (.slice g2 gs2 gh2) (.slice g3 gs3 gh3)
                obtain ⟨W7, hW7⟩ : ∃ W, ((u56w.setCell ⟨u54w.heap.size, 0, none⟩ (.slice g1 gs1 gh1)).setCell ⟨u54w.heap.size, 1, none⟩ (.slice g2 gs2 gh2)).setCell ⟨u54w.heap.size, 2, none⟩ (.slice g3 gs3 gh3) = W := ⟨_, rfl⟩
                rw [hW7] at V10 V11 E67 B7
                rw [hW7]
                clear hW7 c0 c1 c2 y0 y1 y2
                obtain ⟨_, _, _, _, _, _, _, _, _, ⟨c0, c1, c2⟩, ⟨y0, y1, y2⟩, -⟩ := V11.cells
                have U7 := Lib.hid (And.intro (V11.put E67) (And.intro (V11.far V10 (Ne.symm hne) (.slice j1 js1 jh1) (.slice j2 js2 jh2) (.slice j3 js3 jh3)) (env_set B7 (show wc.heap.size ≤ u55w.heap.size from Belu55w.out.size) (.slice j1 js1 jh1) (.slice j2 js2 jh2) (.slice j3 js3 jh3))))
                clear V10 V11 E67 B7 hne
                refine nextL (i := 15) (by kernel_rfl) rfl (by kernel_rfl) (fun K hK => ?_)
                go_simp
                refine hK.out _ _ ?_ ?_
                · exact .inl (by kernel_rfl)
                clear hK K
                refine doneL (by kernel_rfl) ?_ _
                go_wp2_with fail
                go_meet
                case rel => exact ⟨u54w.heap.size, u55w.heap.size, rfl, rfl, U7.out.2.1, U7.out.1, U7.out.2.2⟩
              · go_simp
                refine hK.out _ _ ?_ ?_
                · exact .inr (HS.out _ (en_alloc Belu54w.out _))
                clear hK K
                obtain ⟨u57w, hu57w⟩ : ∃ W, u54w.alloc (.cells #[.slice none 0 0, .slice none 0 0, .slice none 0 0] 26) = W := ⟨_, rfl⟩
                rw [hu57w]
                have z11_u57w := Lib.hid (show Blk u57w u54w.heap.size (.cells #[.slice none 0 0, .slice none 0 0, .slice none 0 0] 26) by rw [← hu57w]; exact Blk.new rfl)
                have Belu57w := Lib.hid (show Below wc.heap.size wc u57w by rw [← hu57w]; exact (en_alloc Belu54w.out _))
                have Ea_u57w := Lib.hid (show EnvAt u57w (.agg #[.slice g1 gs1 gh1, .slice g2 gs2 gh2, .slice g3 gs3 gh3]) EX by rw [← hu57w]; exact Ea_u54w.out.below (en_alloc (Below.refl _ _) _) (Nat.le_refl _))
                have Eb_u57w := Lib.hid (show EnvAt u57w (.agg #[.slice j1 js1 jh1, .slice j2 js2 jh2, .slice j3 js3 jh3]) EY by rw [← hu57w]; exact Eb_u54w.out.below (en_alloc (Below.refl _ _) _) (Nat.le_refl _))
                clear hu57w
                refine nextL (i := 12) (by kernel_rfl) rfl (by kernel_rfl) (fun K hK => ?_)
                go_simp
                refine hK.out _ _ ?_ ?_
                · exact .inr (HS.out _ (en_alloc Belu57w.out _))
                clear hK K
                obtain ⟨u58w, hu58w⟩ : ∃ W, u57w.alloc (.cells #[.slice none 0 0, .slice none 0 0, .slice none 0 0] 26) = W := ⟨_, rfl⟩
                rw [hu58w]
                have z10_u58w := Lib.hid (show Blk u58w u57w.heap.size (.cells #[.slice none 0 0, .slice none 0 0, .slice none 0 0] 26) by rw [← hu58w]; exact Blk.new rfl)
                have Belu58w := Lib.hid (show Below wc.heap.size wc u58w by rw [← hu58w]; exact (en_alloc Belu57w.out _))
                have z11_u58w := Lib.hid (show Blk u58w u54w.heap.size (.cells #[.slice none 0 0, .slice none 0 0, .slice none 0 0] 26) by rw [← hu58w]; exact z11_u57w.out.alloc _)
                have Ea_u58w := Lib.hid (show EnvAt u58w (.agg #[.slice g1 gs1 gh1, .slice g2 gs2 gh2, .slice g3 gs3 gh3]) EX by rw [← hu58w]; exact Ea_u57w.out.below (en_alloc (Below.refl _ _) _) (Nat.le_refl _))
                have Eb_u58w := Lib.hid (show EnvAt u58w (.agg #[.slice j1 js1 jh1, .slice j2 js2 jh2, .slice j3 js3 jh3]) EY by rw [← hu58w]; exact Eb_u57w.out.below (en_alloc (Below.refl _ _) _) (Nat.le_refl _))
                have NE := Lib.hid (show u54w.heap.size ≠ u57w.heap.size from Nat.ne_of_lt z11_u57w.out.lt)
                clear hu58w
                have c0 := cell_of_row u58w _ 0 _ _ _ z10_u58w.out
                have c1 := cell_of_row u58w _ 1 _ _ _ z10_u58w.out
                have c2 := cell_of_row u58w _ 2 _ _ _ z10_u58w.out
                have y0 := frozen_of_row u58w _ 0 _ _ z10_u58w.out
                have y1 := frozen_of_row u58w _ 1 _ _ z10_u58w.out
                have y2 := frozen_of_row u58w _ 2 _ _ z10_u58w.out
                refine nextL (i := 14) (by kernel_rfl) rfl (by kernel_rfl) (fun K hK => ?_)
                go_simp
                refine hK.out _ _ ?_ ?_
                · exact .inl (by kernel_rfl)
                clear hK K
                have hne : u57w.heap.size ≠ u54w.heap.size := (Ne.symm NE.out)
                have V10 := (Vr.zero z10_u58w.out).put Ea_u58w.out
                have V11 := (Vr.zero z10_u58w.out).far (Vr.zero z11_u58w.out) hne (.slice g1 gs1 gh1) (.slice g2 gs2 gh2) (.slice g3 gs3 gh3)
                have E67 := Eb_u58w.out.put z10_u58w.out (.slice g1 gs1 gh1) (.slice g2 gs2 gh2) (.slice g3 gs3 gh3)
                have B7 := env_set Belu58w.out (show wc.heap.size ≤ u57w.heap.size from Belu57w.out.size) (.slice g1 gs1 gh1) (.slice g2 gs2 gh2) (.slice g3 gs3 gh3)
                obtain ⟨W7, hW7⟩ : ∃ W, ((u58w.setCell ⟨u57w.heap.size, 0, none⟩ (.slice g1 gs1 gh1)).setCell ⟨u57w.heap.size, 1, none⟩ (.slice g2 gs2 gh2)).setCell ⟨u57w.heap.size, 2, none⟩ (.slice g3 gs3 gh3) = W := ⟨_, rfl⟩
                rw [hW7] at V10 V11 E67 B7
                rw [hW7]
                clear hW7 c0 c1 c2 y0 y1 y2
                obtain ⟨_, _, _, _, _, _, _, _, _, ⟨c0, c1, c2⟩, ⟨y0, y1, y2⟩, -⟩ := V11.cells
                have U7 := Lib.hid (And.intro (V11.put E67) (And.intro (V11.far V10 (Ne.symm hne) (.slice j1 js1 jh1) (.slice j2 js2 jh2) (.slice j3 js3 jh3)) (env_set B7 (show wc.heap.size ≤ u54w.heap.size from Belu54w.out.size) (.slice j1 js1 jh1) (.slice j2 js2 jh2) (.slice j3 js3 jh3))))
                clear V10 V11 E67 B7 hne
                refine nextL (i := 15) (by kernel_rfl) rfl (by kernel_rfl) (fun K hK => ?_)
                go_simp
                refine hK.out _ _ ?_ ?_
                · exact .inl (by kernel_rfl)
                clear hK K
                refine doneL (by kernel_rfl) ?_ _
                go_wp2_with fail
                go_meet
                case rel => exact ⟨u57w.heap.size, u54w.heap.size, rfl, rfl, U7.out.2.1, U7.out.1, U7.out.2.2⟩
            · go_simp
              refine hK.out _ _ ?_ ?_
              · exact .inr (HS.out _ (en_alloc Belu53w.out _))
              clear hK K
              obtain ⟨u59w, hu59w⟩ : ∃ W, u53w.alloc (.cells #[.slice none 0 0, .slice none 0 0, .slice none 0 0] 26) = W := ⟨_, rfl⟩
              rw [hu59w]
              have z10_u59w := Lib.hid (show Blk u59w u53w.heap.size (.cells #[.slice none 0 0, .slice none 0 0, .slice none 0 0] 26) by rw [← hu59w]; exact Blk.new rfl)
              have Belu59w := Lib.hid (show Below wc.heap.size wc u59w by rw [← hu59w]; exact (en_alloc Belu53w.out _))
              have Ea_u59w := Lib.hid (show EnvAt u59w (.agg #[.slice g1 gs1 gh1, .slice g2 gs2 gh2, .slice g3 gs3 gh3]) EX by rw [← hu59w]; exact Ea_u53w.out.below (en_alloc (Below.refl _ _) _) (Nat.le_refl _))
              clear hu59w
              refine twoL (i := 11) (j := 13) (by kernel_rfl) rfl rfl (by kernel_rfl) (by kernel_rfl) (fun K hK => ?_) (fun K hK => ?_)
              · go_simp
                go_wp2_with (go_at_call 9; (refine (HCb.out _ Belu59w.out).mono ?_); rintro e u60w ⟨v5, rfl, he, hb⟩; obtain ⟨j1, js1, jh1, j2, js2, jh2, j3, js3, jh3, rfl⟩ := he.bare; have Eb_u60w := Lib.hid he; have Belu60w := Lib.hid (show Below wc.heap.size wc u60w from en_trans Belu59w.out hb); have z10_u60w := Lib.hid (show Blk u60w u53w.heap.size (.cells #[.slice none 0 0, .slice none 0 0, .slice none 0 0] 26) from z10_u59w.out.below hb); have Ea_u60w := Lib.hid (show EnvAt u60w (.agg #[.slice g1 gs1 gh1, .slice g2 gs2 gh2, .slice g3 gs3 gh3]) EX from Ea_u59w.out.below hb (Nat.le_refl _)); clear he hb)
                refine hK.out _ _ ?_ ?_
                · exact .inr (HS.out _ Belu60w.out)
                clear hK K
                refine nextL (i := 13) (by kernel_rfl) rfl (by kernel_rfl) (fun K hK => ?_)
                go_simp
                refine hK.out _ _ ?_ ?_
                · exact .inr (HS.out _ (en_alloc Belu60w.out _))
                clear hK K
                obtain ⟨u61w, hu61w⟩ : ∃ W, u60w.alloc (.cells #[.slice none 0 0, .slice none 0 0, .slice none 0 0] 26) = W := ⟨_, rfl⟩
                rw [hu61w]
                have z11_u61w := Lib.hid (show Blk u61w u60w.heap.size (.cells #[.slice none 0 0, .slice none 0 0, .slice none 0 0] 26) by rw [← hu61w]; exact Blk.new rfl)
                have Belu61w := Lib.hid (show Below wc.heap.size wc u61w by rw [← hu61w]; exact (en_alloc Belu60w.out _))
                have z10_u61w := Lib.hid (show Blk u61w u53w.heap.size (.cells #[.slice none 0 0, .slice none 0 0, .slice none 0 0] 26) by rw [← hu61w]; exact z10_u60w.out.alloc _)
                have Ea_u61w := Lib.hid (show EnvAt u61w (.agg #[.slice g1 gs1 gh1, .slice g2 gs2 gh2, .slice g3 gs3 gh3]) EX by rw [← hu61w]; exact Ea_u60w.out.below (en_alloc (Below.refl _ _) _) (Nat.le_refl _))
                have Eb_u61w := Lib.hid (show EnvAt u61w (.agg #[.slice j1 js1 jh1, .slice j2 js2 jh2, .slice j3 js3 jh3]) EY by rw [← hu61w]; exact Eb_u60w.out.below (en_alloc (Below.refl _ _) _) (Nat.le_refl _))
                have NE := Lib.hid (show u53w.heap.size ≠ u60w.heap.size from Nat.ne_of_lt z10_u60w.out.lt)
                clear hu61w
                have c0 := cell_of_row u61w _ 0 _ _ _ z10_u61w.out
                have c1 := cell_of_row u61w _ 1 _ _ _ z10_u61w.out
                have c2 := cell_of_row u61w _ 2 _ _ _ z10_u61w.out
                have y0 := frozen_of_row u61w _ 0 _ _ z10_u61w.out
                have y1 := frozen_of_row u61w _ 1 _ _ z10_u61w.out
                have y2 := frozen_of_row u61w _ 2 _ _ z10_u61w.out
                refine nextL (i := 14) (by kernel_rfl) rfl (by kernel_rfl) (fun K hK => ?_)
                go_simp
                refine hK.out _ _ ?_ ?_
                · exact .inl (by kernel_rfl)
                clear hK K
                have hne : u53w.heap.size ≠ u60w.heap.size := NE.out
                have V10 := (Vr.zero z10_u61w.out).put Ea_u61w.out
                have V11 := (Vr.zero z10_u61w.out).far (Vr.zero z11_u61w.out) hne (.slice g1 gs1 gh1) (.slice g2 gs2 gh2) (.slice g3 gs3 gh3)
                have E67 := Eb_u61w.out.put z10_u61w.out (.slice g1 gs1 gh1) (.slice g2 gs2 gh2) (.slice g3 gs3 gh3)
                have B7 := env_set Belu61w.out (show wc.heap.size ≤ u53w.heap.size from Belu53w.out.size) (.slice g1 gs1 gh1) (.slice g2 gs2 gh2) (.slice g3 gs3 gh3)
                obtain ⟨W7, hW7⟩ : ∃ W, ((u61w.setCell ⟨u53w.heap.size, 0, none⟩ (.slice g1 gs1 gh1)).setCell ⟨u53w.heap.size, 1, none⟩ (.slice g2 gs2 gh2)).setCell ⟨u53w.heap.size, 2, none⟩ (.slice g3 gs3 gh3) = W := ⟨_, rfl⟩
                rw [hW7] at V10 V11 E67 B7
                rw [hW7]
                clear hW7 c0 c1 c2 y0 y1 y2
                obtain ⟨_, _, _, _, _, _, _, _, _, ⟨c0, c1, c2⟩, ⟨y0, y1, y2⟩, -⟩ := V11.cells
                have U7 := Lib.hid (And.intro (V11.put E67) (And.intro (V11.far V10 (Ne.symm hne) (.slice j1 js1 jh1) (.slice j2 js2 jh2) (.slice j3 js3 jh3)) (env_set B7 (show wc.heap.size ≤ u60w.heap.size from Belu60w.out.size) (.slice j1 js1 jh1) (.slice j2 js2 jh2) (.slice j3 js3 jh3))))
                clear V10 V11 E67 B7 hne
                refine nextL (i := 15) (by kernel_rfl) rfl (by kernel_rfl) (fun K hK => ?_)
                go_simp
                refine hK.out _ _ ?_ ?_
                · exact .inl (by kernel_rfl)
                clear hK K
                refine doneL (by kernel_rfl) ?_ _
                go_wp2_with fail
                go_meet
                case rel => exact ⟨u53w.heap.size, u60w.heap.size, rfl, rfl, U7.out.2.1, U7.out.1, U7.out.2.2⟩
              · go_simp
                refine hK.out _ _ ?_ ?_
                · exact .inr (HS.out _ (en_alloc Belu59w.out _))
                clear hK K
                obtain ⟨u62w, hu62w⟩ : ∃ W, u59w.alloc (.cells #[.slice none 0 0, .slice none 0 0, .slice none 0 0] 26) = W := ⟨_, rfl⟩
                rw [hu62w]
                have z11_u62w := Lib.hid (show Blk u62w u59w.heap.size (.cells #[.slice none 0 0, .slice none 0 0, .slice none 0 0] 26) by rw [← hu62w]; exact Blk.new rfl)
                have Belu62w := Lib.hid (show Below wc.heap.size wc u62w by rw [← hu62w]; exact (en_alloc Belu59w.out _))
                have z10_u62w := Lib.hid (show Blk u62w u53w.heap.size (.cells #[.slice none 0 0, .slice none 0 0, .slice none 0 0] 26) by rw [← hu62w]; exact z10_u59w.out.alloc _)
                have Ea_u62w := Lib.hid (show EnvAt u62w (.agg #[.slice g1 gs1 gh1, .slice g2 gs2 gh2, .slice g3 gs3 gh3]) EX by rw [← hu62w]; exact Ea_u59w.out.below (en_alloc (Below.refl _ _) _) (Nat.le_refl _))
                have NE := Lib.hid (show u53w.heap.size ≠ u59w.heap.size from Nat.ne_of_lt z10_u59w.out.lt)
                clear hu62w
                refine nextL (i := 11) (by kernel_rfl) rfl (by kernel_rfl) (fun K hK => ?_)
                go_simp
                go_wp2_with (go_at_call 9; (refine (HCb.out _ Belu62w.out).mono ?_); rintro e u63w ⟨v5, rfl, he, hb⟩; obtain ⟨j1, js1, jh1, j2, js2, jh2, j3, js3, jh3, rfl⟩ := he.bare; have Eb_u63w := Lib.hid he; have Belu63w := Lib.hid (show Below wc.heap.size wc u63w from en_trans Belu62w.out hb); have z10_u63w := Lib.hid (show Blk u63w u53w.heap.size (.cells #[.slice none 0 0, .slice none 0 0, .slice none 0 0] 26) from z10_u62w.out.below hb); have z11_u63w := Lib.hid (show Blk u63w u59w.heap.size (.cells #[.slice none 0 0, .slice none 0 0, .slice none 0 0] 26) from z11_u62w.out.below hb); have Ea_u63w := Lib.hid (show EnvAt u63w (.agg #[.slice g1 gs1 gh1, .slice g2 gs2 gh2, .slice g3 gs3 gh3]) EX from Ea_u62w.out.below hb (Nat.le_refl _)); clear he hb)
                refine hK.out _ _ ?_ ?_
                · exact .inr (HS.out _ Belu63w.out)
                clear hK K
                have c0 := cell_of_row u63w _ 0 _ _ _ z10_u63w.out
                have c1 := cell_of_row u63w _ 1 _ _ _ z10_u63w.out
                have c2 := cell_of_row u63w _ 2 _ _ _ z10_u63w.out
                have y0 := frozen_of_row u63w _ 0 _ _ z10_u63w.out
                have y1 := frozen_of_row u63w _ 1 _ _ z10_u63w.out
                have y2 := frozen_of_row u63w _ 2 _ _ z10_u63w.out
                refine nextL (i := 14) (by kernel_rfl) rfl (by kernel_rfl) (fun K hK => ?_)
                go_simp
                refine hK.out _ _ ?_ ?_
                · exact .inl (by kernel_rfl)
                clear hK K
                have hne : u53w.heap.size ≠ u59w.heap.size := NE.out
                have V10 := (Vr.zero z10_u63w.out).put Ea_u63w.out
                have V11 := (Vr.zero z10_u63w.out).far (Vr.zero z11_u63w.out) hne (.slice g1 gs1 gh1) (.slice g2 gs2 gh2) (.slice g3 gs3 gh3)
                have E67 := Eb_u63w.out.put z10_u63w.out (.slice g1 gs1 gh1) (.slice g2 gs2 gh2) (.slice g3 gs3 gh3)
                have B7 := env_set Belu63w.out (show wc.heap.size ≤ u53w.heap.size from Belu53w.out.size) (.slice g1 gs1 gh1) (.slice g2 gs2 gh2) (.slice g3 gs3 gh3)
                obtain ⟨W7, hW7⟩ : ∃ W, ((u63w.setCell ⟨u53w.heap.size, 0, none⟩ (.slice g1 gs1 gh1)).setCell ⟨u53w.heap.size, 1, none⟩ (.slice g2 gs2 gh2)).setCell ⟨u53w.heap.size, 2, none⟩ (.slice g3 gs3 gh3) = W := ⟨_, rfl⟩
                rw [hW7] at V10 V11 E67 B7
                rw [hW7]
                clear hW7 c0 c1 c2 y0 y1 y2
                obtain ⟨_, _, _, _, _, _, _, _, _, ⟨c0, c1, c2⟩, ⟨y0, y1, y2⟩, -⟩ := V11.cells
                have U7 := Lib.hid (And.intro (V11.put E67) (And.intro (V11.far V10 (Ne.symm hne) (.slice j1 js1 jh1) (.slice j2 js2 jh2) (.slice j3 js3 jh3)) (env_set B7 (show wc.heap.size ≤ u59w.heap.size from Belu59w.out.size) (.slice j1 js1 jh1) (.slice j2 js2 jh2) (.slice j3 js3 jh3))))
                clear V10 V11 E67 B7 hne
                refine nextL (i := 15) (by kernel_rfl) rfl (by kernel_rfl) (fun K hK => ?_)
                go_simp
                refine hK.out _ _ ?_ ?_
                · exact .inl (by kernel_rfl)
                clear hK K
                refine doneL (by kernel_rfl) ?_ _
                go_wp2_with fail
                go_meet
                case rel => exact ⟨u53w.heap.size, u59w.heap.size, rfl, rfl, U7.out.2.1, U7.out.1, U7.out.2.2⟩
            · go_simp
              refine hK.out _ _ ?_ ?_
              · exact .inr (HS.out _ (en_alloc Belu53w.out _))
              clear hK K
              obtain ⟨u64w, hu64w⟩ : ∃ W, u53w.alloc (.cells #[.slice none 0 0, .slice none 0 0, .slice none 0 0] 26) = W := ⟨_, rfl⟩
              rw [hu64w]
              have z11_u64w := Lib.hid (show Blk u64w u53w.heap.size (.cells #[.slice none 0 0, .slice none 0 0, .slice none 0 0] 26) by rw [← hu64w]; exact Blk.new rfl)
              have Belu64w := Lib.hid (show Below wc.heap.size wc u64w by rw [← hu64w]; exact (en_alloc Belu53w.out _))
              have Ea_u64w := Lib.hid (show EnvAt u64w (.agg #[.slice g1 gs1 gh1, .slice g2 gs2 gh2, .slice g3 gs3 gh3]) EX by rw [← hu64w]; exact Ea_u53w.out.below (en_alloc (Below.refl _ _) _) (Nat.le_refl _))
              clear hu64w
              refine twoL (i := 11) (j := 12) (by kernel_rfl) rfl rfl (by kernel_rfl) (by kernel_rfl) (fun K hK => ?_) (fun K hK => ?_)
              · go_simp
                go_wp2_with (go_at_call 9; (refine (HCb.out _ Belu64w.out).mono ?_); rintro e u65w ⟨v5, rfl, he, hb⟩; obtain ⟨j1, js1, jh1, j2, js2, jh2, j3, js3, jh3, rfl⟩ := he.bare; have Eb_u65w := Lib.hid he; have Belu65w := Lib.hid (show Below wc.heap.size wc u65w from en_trans Belu64w.out hb); have z11_u65w := Lib.hid (show Blk u65w u53w.heap.size (.cells #[.slice none 0 0, .slice none 0 0, .slice none 0 0] 26) from z11_u64w.out.below hb); have Ea_u65w := Lib.hid (show EnvAt u65w (.agg #[.slice g1 gs1 gh1, .slice g2 gs2 gh2, .slice g3 gs3 gh3]) EX from Ea_u64w.out.below hb (Nat.le_refl _)); clear he hb)
                refine hK.out _ _ ?_ ?_
                · exact .inr (HS.out _ Belu65w.out)
                clear hK K
                refine nextL (i := 12) (by kernel_rfl) rfl (by kernel_rfl) (fun K hK => ?_)
                go_simp
                refine hK.out _ _ ?_ ?_
                · exact .inr (HS.out _ (en_alloc Belu65w.out _))
                clear hK K
                obtain ⟨u66w, hu66w⟩ : ∃ W, u65w.alloc (.cells #[.slice none 0 0, .slice none 0 0, .slice none 0 0] 26) = W := ⟨_, rfl⟩
                rw [hu66w]
                have z10_u66w := Lib.hid (show Blk u66w u65w.heap.size (.cells #[.slice none 0 0, .slice none 0 0, .slice none 0 0] 26) by rw [← hu66w]; exact Blk.new rfl)
                have Belu66w := Lib.hid (show Below wc.heap.size wc u66w by rw [← hu66w]; exact (en_alloc Belu65w.out _))
                have z11_u66w := Lib.hid (show Blk u66w u53w.heap.size (.cells #[.slice none 0 0, .slice none 0 0, .slice none 0 0] 26) by rw [← hu66w]; exact z11_u65w.out.alloc _)
                have Ea_u66w := Lib.hid (show EnvAt u66w (.agg #[.slice g1 gs1 gh1, .slice g2 gs2 gh2, .slice g3 gs3 gh3]) EX by rw [← hu66w]; exact Ea_u65w.out.below (en_alloc (Below.refl _ _) _) (Nat.le_refl _))
                have Eb_u66w := Lib.hid (show EnvAt u66w (.agg #[.slice j1 js1 jh1, .slice j2 js2 jh2, .slice j3 js3 jh3]) EY by rw [← hu66w]; exact Eb_u65w.out.below (en_alloc (Below.refl _ _) _) (Nat.le_refl _))
                have NE := Lib.hid (show u53w.heap.size ≠ u65w.heap.size from Nat.ne_of_lt z11_u65w.out.lt)
                clear hu66w
                have c0 := cell_of_row u66w _ 0 _ _ _ z10_u66w.out
                have c1 := cell_of_row u66w _ 1 _ _ _ z10_u66w.out
                have c2 := cell_of_row u66w _ 2 _ _ _ z10_u66w.out
                have y0 := frozen_of_row u66w _ 0 _ _ z10_u66w.out
                have y1 := frozen_of_row u66w _ 1 _ _ z10_u66w.out
                have y2 := frozen_of_row u66w _ 2 _ _ z10_u66w.out
                refine nextL (i := 14) (by kernel_rfl) rfl (by kernel_rfl) (fun K hK => ?_)
                go_simp
                refine hK.out _ _ ?_ ?_
                · exact .inl (by kernel_rfl)
                clear hK K
                have hne : u65w.heap.size ≠ u53w.heap.size := (Ne.symm NE.out)
                have V10 := (Vr.zero z10_u66w.out).put Ea_u66w.out
                have V11 := (Vr.zero z10_u66w.out).far (Vr.zero z11_u66w.out) hne (.slice g1 gs1 gh1) (.slice g2 gs2 gh2) (.slice g3 gs3 gh3)
                have E67 := Eb_u66w.out.put z10_u66w.out (.slice g1 gs1 gh1) (.slice g2 gs2 gh2) (.slice g3 gs3 gh3)
                have B7 := env_set Belu66w.out (show wc.heap.size ≤ u65w.heap.size from Belu65w.out.size) (.slice g1 gs1 gh1) (.slice g2 gs2 gh2) (.slice g3 gs3 gh3)
                obtain ⟨W7, hW7⟩ : ∃ W, ((u66w.setCell ⟨u65w.heap.size, 0, none⟩ (.slice g1 gs1 gh1)).setCell ⟨u65w.heap.size, 1, none⟩ (.slice g2 gs2 gh2)).setCell ⟨u65w.heap.size, 2, none⟩ (.slice g3 gs3 gh3) = W := ⟨_, rfl⟩
                rw [hW7] at V10 V11 E67 B7
                rw [hW7]
                clear hW7 c0 c1 c2 y0 y1 y2
                obtain ⟨_, _, _, _, _, _, _, _, _, ⟨c0, c1, c2⟩, ⟨y0, y1, y2⟩, -⟩ := V11.cells
                have U7 := Lib.hid (And.intro (V11.put E67) (And.intro (V11.far V10 (Ne.symm hne) (.slice j1 js1 jh1) (.slice j2 js2 jh2) (.slice j3 js3 jh3)) (env_set B7 (show wc.heap.size ≤ u53w.heap.size from Belu53w.out.size) (.slice j1 js1 jh1) (.slice j2 js2 jh2) (.slice j3 js3 jh3))))
                clear V10 V11 E67 B7 hne
                refine nextL (i := 15) (by kernel_rfl) rfl (by kernel_rfl) (fun K hK => ?_)
                go_simp
                refine hK.out _ _ ?_ ?_
                · exact .inl (by kernel_rfl)
                clear hK K
                refine doneL (by kernel_rfl) ?_ _
                go_wp2_with fail
                go_meet
                case rel => exact ⟨u65w.heap.size, u53w.heap.size, rfl, rfl, U7.out.2.1, U7.out.1, U7.out.2.2⟩
              · go_simp
                refine hK.out _ _ ?_ ?_
                · exact .inr (HS.out _ (en_alloc Belu64w.out _))
                clear hK K
                obtain ⟨u67w, hu67w⟩ : ∃ W, u64w.alloc (.cells #[.slice none 0 0, .slice none 0 0, .slice none 0 0] 26) = W := ⟨_, rfl⟩
                rw [hu67w]
                have z10_u67w := Lib.hid (show Blk u67w u64w.heap.size (.cells #[.slice none 0 0, .slice none 0 0, .slice none 0 0] 26) by rw [← hu67w]; exact Blk.new rfl)
                have Belu67w := Lib.hid (show Below wc.heap.size wc u67w by rw [← hu67w]; exact (en_alloc Belu64w.out _))
                have z11_u67w := Lib.hid (show Blk u67w u53w.heap.size (.cells #[.slice none 0 0, .slice none 0 0, .slice none 0 0] 26) by rw [← hu67w]; exact z11_u64w.out.alloc _)
                have Ea_u67w := Lib.hid (show EnvAt u67w (.agg #[.slice g1 gs1 gh1, .slice g2 gs2 gh2, .slice g3 gs3 gh3]) EX by rw [← hu67w]; exact Ea_u64w.out.below (en_alloc (Below.refl _ _) _) (Nat.le_refl _))
                have NE := Lib.hid (show u53w.heap.size ≠ u64w.heap.size from Nat.ne_of_lt z11_u64w.out.lt)
                clear hu67w
                refine nextL (i := 11) (by kernel_rfl) rfl (by kernel_rfl) (fun K hK => ?_)
                go_simp
                go_wp2_with (go_at_call 9; (refine (HCb.out _ Belu67w.out).mono ?_); rintro e u68w ⟨v5, rfl, he, hb⟩; obtain ⟨j1, js1, jh1, j2, js2, jh2, j3, js3, jh3, rfl⟩ := he.bare; have Eb_u68w := Lib.hid he; have Belu68w := Lib.hid (show Below wc.heap.size wc u68w from en_trans Belu67w.out hb); have z11_u68w := Lib.hid (show Blk u68w u53w.heap.size (.cells #[.slice none 0 0, .slice none 0 0, .slice none 0 0] 26) from z11_u67w.out.below hb); have z10_u68w := Lib.hid (show Blk u68w u64w.heap.size (.cells #[.slice none 0 0, .slice none 0 0, .slice none 0 0] 26) from z10_u67w.out.below hb); have Ea_u68w := Lib.hid (show EnvAt u68w (.agg #[.slice g1 gs1 gh1, .slice g2 gs2 gh2, .slice g3 gs3 gh3]) EX from Ea_u67w.out.below hb (Nat.le_refl _)); clear he hb)
                refine hK.out _ _ ?_ ?_
                · exact .inr (HS.out _ Belu68w.out)
                clear hK K
                have c0 := cell_of_row u68w _ 0 _ _ _ z10_u68w.out
                have c1 := cell_of_row u68w _ 1 _ _ _ z10_u68w.out
                have c2 := cell_of_row u68w _ 2 _ _ _ z10_u68w.out
                have y0 := frozen_of_row u68w _ 0 _ _ z10_u68w.out
                have y1 := frozen_of_row u68w _ 1 _ _ z10_u68w.out
                have y2 := frozen_of_row u68w _ 2 _ _ z10_u68w.out
                refine nextL (i := 14) (by kernel_rfl) rfl (by kernel_rfl) (fun K hK => ?_)
                go_simp
                refine hK.out _ _ ?_ ?_
                · exact .inl (by kernel_rfl)
                clear hK K
                have hne : u64w.heap.size ≠ u53w.heap.size := (Ne.symm NE.out)
                have V10 := (Vr.zero z10_u68w.out).put Ea_u68w.out
                have V11 := (Vr.zero z10_u68w.out).far (Vr.zero z11_u68w.out) hne (.slice g1 gs1 gh1) (.slice g2 gs2 gh2) (.slice g3 gs3 gh3)
                have E67 := Eb_u68w.out.put z10_u68w.out (.slice g1 gs1 gh1) (.slice g2 gs2 gh2) (.slice g3 gs3 gh3)
                have B7 := env_set Belu68w.out (show wc.heap.size ≤ u64w.heap.size from Belu64w.out.size) (.slice g1 gs1 gh1) (.slice g2 gs2 gh2) (.slice g3 gs3 gh3)
                obtain ⟨W7, hW7⟩ : ∃ W, ((u68w.setCell ⟨u64w.heap.size, 0, none⟩ (.slice g1 gs1 gh1)).setCell ⟨u64w.heap.size, 1, none⟩ (.slice g2 gs2 gh2)).setCell ⟨u64w.heap.size, 2, none⟩ (.slice g3 gs3 gh3) = W := ⟨_, rfl⟩
                rw [hW7] at V10 V11 E67 B7
                rw [hW7]
                clear hW7 c0 c1 c2 y0 y1 y2
                obtain ⟨_, _, _, _, _, _, _, _, _, ⟨c0, c1, c2⟩, ⟨y0, y1, y2⟩, -⟩ := V11.cells
                have U7 := Lib.hid (And.intro (V11.put E67) (And.intro (V11.far V10 (Ne.symm hne) (.slice j1 js1 jh1) (.slice j2 js2 jh2) (.slice j3 js3 jh3)) (env_set B7 (show wc.heap.size ≤ u53w.heap.size from Belu53w.out.size) (.slice j1 js1 jh1) (.slice j2 js2 jh2) (.slice j3 js3 jh3))))
                clear V10 V11 E67 B7 hne
                refine nextL (i := 15) (by kernel_rfl) rfl (by kernel_rfl) (fun K hK => ?_)
                go_simp
                refine hK.out _ _ ?_ ?_
                · exact .inl (by kernel_rfl)
                clear hK K
                refine doneL (by kernel_rfl) ?_ _
                go_wp2_with fail
                go_meet
                case rel => exact ⟨u64w.heap.size, u53w.heap.size, rfl, rfl, U7.out.2.1, U7.out.1, U7.out.2.2⟩
          · go_simp
            refine hK.out _ _ ?_ ?_
            · exact .inr (HS.out _ (en_alloc (Below.refl _ _) _).drew)
            clear hK K
            obtain ⟨u69w, hu69w⟩ : ∃ W, (wc.alloc (.cells #[.slice none 0 0, .slice none 0 0, .slice none 0 0] 26)).drew = W := ⟨_, rfl⟩
            rw [hu69w]
            have z10_u69w := Lib.hid (show Blk u69w wc.heap.size (.cells #[.slice none 0 0, .slice none 0 0, .slice none 0 0] 26) by rw [← hu69w]; exact Blk.new rfl)
            have Belu69w := Lib.hid (show Below wc.heap.size wc u69w by rw [← hu69w]; exact (en_alloc (Below.refl _ _) _).drew)
            clear hu69w
            refine twoL (i := 5) (j := 13) (by kernel_rfl) rfl rfl (by kernel_rfl) (by kernel_rfl) (fun K hK => ?_) (fun K hK => ?_)
            · go_simp
              go_wp2_with (go_at_call 9; (refine (HCa.out _ Belu69w.out).mono ?_); rintro e u70w ⟨v5, rfl, he, hb⟩; obtain ⟨g1, gs1, gh1, g2, gs2, gh2, g3, gs3, gh3, rfl⟩ := he.bare; have Ea_u70w := Lib.hid he; have Belu70w := Lib.hid (show Below wc.heap.size wc u70w from en_trans Belu69w.out hb); have z10_u70w := Lib.hid (show Blk u70w wc.heap.size (.cells #[.slice none 0 0, .slice none 0 0, .slice none 0 0] 26) from z10_u69w.out.below hb); clear he hb)
              refine hK.out _ _ ?_ ?_
              · exact .inr (HS.out _ Belu70w.out)
              clear hK K
              refine twoL (i := 11) (j := 13) (by kernel_rfl) rfl rfl (by kernel_rfl) (by kernel_rfl) (fun K hK => ?_) (fun K hK => ?_)
              · go_simp
                go_wp2_with (go_at_call 9; (refine (HCb.out _ Belu70w.out).mono ?_); rintro e u71w ⟨v5, rfl, he, hb⟩; obtain ⟨j1, js1, jh1, j2, js2, jh2, j3, js3, jh3, rfl⟩ := he.bare; have Eb_u71w := Lib.hid he; have Belu71w := Lib.hid (show Below wc.heap.size wc u71w from en_trans Belu70w.out hb); have z10_u71w := Lib.hid (show Blk u71w wc.heap.size (.cells #[.slice none 0 0, .slice none 0 0, .slice none 0 0] 26) from z10_u70w.out.below hb); have Ea_u71w := Lib.hid (show EnvAt u71w (.agg #[.slice g1 gs1 gh1, .slice g2 gs2 gh2, .slice g3 gs3 gh3]) EX from Ea_u70w.out.below hb (Nat.le_refl _)); clear he hb)
                refine hK.out _ _ ?_ ?_
                · exact .inr (HS.out _ Belu71w.out)
                clear hK K
                refine nextL (i := 13) (by kernel_rfl) rfl (by kernel_rfl) (fun K hK => ?_)
                go_simp
                refine hK.out _ _ ?_ ?_
                · exact .inr (HS.out _ (en_alloc Belu71w.out _))
                clear hK K
                obtain ⟨u72w, hu72w⟩ : ∃ W, u71w.alloc (.cells #[.slice none 0 0, .slice none 0 0, .slice none 0 0] 26) = W := ⟨_, rfl⟩
                rw [hu72w]
                have z11_u72w := Lib.hid (show Blk u72w u71w.heap.size (.cells #[.slice none 0 0, .slice none 0 0, .slice none 0 0] 26) by rw [← hu72w]; exact Blk.new rfl)
                have Belu72w := Lib.hid (show Below wc.heap.size wc u72w by rw [← hu72w]; exact (en_alloc Belu71w.out _))
                have z10_u72w := Lib.hid (show Blk u72w wc.heap.size (.cells #[.slice none 0 0, .slice none 0 0, .slice none 0 0] 26) by rw [← hu72w]; exact z10_u71w.out.alloc _)
                have Ea_u72w := Lib.hid (show EnvAt u72w (.agg #[.slice g1 gs1 gh1, .slice g2 gs2 gh2, .slice g3 gs3 gh3]) EX by rw [← hu72w]; exact Ea_u71w.out.below (en_alloc (Below.refl _ _) _) (Nat.le_refl _))
                have Eb_u72w := Lib.hid (show EnvAt u72w (.agg #[.slice j1 js1 jh1, .slice j2 js2 jh2, .slice j3 js3 jh3]) EY by rw [← hu72w]; exact Eb_u71w.out.below (en_alloc (Below.refl _ _) _) (Nat.le_refl _))
                have NE := Lib.hid (show wc.heap.size ≠ u71w.heap.size from Nat.ne_of_lt z10_u71w.out.lt)
                clear hu72w
                have c0 := cell_of_row u72w _ 0 _ _ _ z10_u72w.out
                have c1 := cell_of_row u72w _ 1 _ _ _ z10_u72w.out
                have c2 := cell_of_row u72w _ 2 _ _ _ z10_u72w.out
                have y0 := frozen_of_row u72w _ 0 _ _ z10_u72w.out
                have y1 := frozen_of_row u72w _ 1 _ _ z10_u72w.out
                have y2 := frozen_of_row u72w _ 2 _ _ z10_u72w.out
                refine nextL (i := 14) (by kernel_rfl) rfl (by kernel_rfl) (fun K hK => ?_)
                go_simp
                refine hK.out _ _ ?_ ?_
                · exact .inl (by kernel_rfl)
                clear hK K
                have hne : wc.heap.size ≠ u71w.heap.size := NE.out
                have V10 := (Vr.zero z10_u72w.out).put Ea_u72w.out
                have V11 := (Vr.zero z10_u72w.out).far (Vr.zero z11_u72w.out) hne (.slice g1 gs1 gh1) (.slice g2 gs2 gh2) (.slice g3 gs3 gh3)
                have E67 := Eb_u72w.out.put z10_u72w.out (.slice g1 gs1 gh1) (.slice g2 gs2 gh2) (.slice g3 gs3 gh3)
                have B7 := env_set Belu72w.out (show wc.heap.size ≤ wc.heap.size from (Nat.le_refl _)) (.slice g1 gs1 gh1) (.slice g2 gs2 gh2) (.slice g3 gs3 gh3)
                obtain ⟨W7, hW7⟩ : ∃ W, ((u72w.setCell ⟨wc.heap.size, 0, none⟩ (.slice g1 gs1 gh1)).setCell ⟨wc.heap.size, 1, none⟩ (.slice g2 gs2 gh2)).setCell ⟨wc.heap.size, 2, none⟩ (.slice g3 gs3 gh3) = W := ⟨_, rfl⟩
                rw [hW7] at V10 V11 E67 B7
                rw [hW7]
                clear hW7 c0 c1 c2 y0 y1 y2
                obtain ⟨_, _, _, _, _, _, _, _, _, ⟨c0, c1, c2⟩, ⟨y0, y1, y2⟩, -⟩ := V11.cells
                have U7 := Lib.hid (And.intro (V11.put E67) (And.intro (V11.far V10 (Ne.symm hne) (.slice j1 js1 jh1) (.slice j2 js2 jh2) (.slice j3 js3 jh3)) (env_set B7 (show wc.heap.size ≤ u71w.heap.size from Belu71w.out.size) (.slice j1 js1 jh1) (.slice j2 js2 jh2) (.slice j3 js3 jh3))))
                clear V10 V11 E67 B7 hne
                refine nextL (i := 15) (by kernel_rfl) rfl (by kernel_rfl) (fun K hK => ?_)
                go_simp
                refine hK.out _ _ ?_ ?_
                · exact .inl (by kernel_rfl)
                clear hK K
                refine doneL (by kernel_rfl) ?_ _
                go_wp2_with fail
                go_meet
                case rel => exact ⟨wc.heap.size, u71w.heap.size, rfl, rfl, U7.out.2.1, U7.out.1, U7.out.2.2⟩
              · go_simp
                refine hK.out _ _ ?_ ?_
                · exact .inr (HS.out _ (en_alloc Belu70w.out _))
                clear hK K
                obtain ⟨u73w, hu73w⟩ : ∃ W, u70w.alloc (.cells #[.slice none 0 0, .slice none 0 0, .slice none 0 0] 26) = W := ⟨_, rfl⟩
                rw [hu73w]
                have z11_u73w := Lib.hid (show Blk u73w u70w.heap.size (.cells #[.slice none 0 0, .slice none 0 0, .slice none 0 0] 26) by rw [← hu73w]; exact Blk.new rfl)
                have Belu73w := Lib.hid (show Below wc.heap.size wc u73w by rw [← hu73w]; exact (en_alloc Belu70w.out _))
                have z10_u73w := Lib.hid (show Blk u73w wc.heap.size (.cells #[.slice none 0 0, .slice none 0 0, .slice none 0 0] 26) by rw [← hu73w]; exact z10_u70w.out.alloc _)
                have Ea_u73w := Lib.hid (show EnvAt u73w (.agg #[.slice g1 gs1 gh1, .slice g2 gs2 gh2, .slice g3 gs3 gh3]) EX by rw [← hu73w]; exact Ea_u70w.out.below (en_alloc (Below.refl _ _) _) (Nat.le_refl _))
                have NE := Lib.hid (show wc.heap.size ≠ u70w.heap.size from Nat.ne_of_lt z10_u70w.out.lt)
                clear hu73w
                refine nextL (i := 11) (by kernel_rfl) rfl (by kernel_rfl) (fun K hK => ?_)
                go_simp
                go_wp2_with (go_at_call 9; (refine (HCb.out _ Belu73w.out).mono ?_); rintro e u74w ⟨v5, rfl, he, hb⟩; obtain ⟨j1, js1, jh1, j2, js2, jh2, j3, js3, jh3, rfl⟩ := he.bare; have Eb_u74w := Lib.hid he; have Belu74w := Lib.hid (show Below wc.heap.size wc u74w from en_trans Belu73w.out hb); have z10_u74w := Lib.hid (show Blk u74w wc.heap.size (.cells #[.slice none 0 0, .slice none 0 0, .slice none 0 0] 26) from z10_u73w.out.below hb); have z11_u74w := Lib.hid (show Blk u74w u70w.heap.size (.cells #[.slice none 0 0, .slice none 0 0, .slice none 0 0] 26) from z11_u73w.out.below hb); have Ea_u74w := Lib.hid (show EnvAt u74w (.agg #[.slice g1 gs1 gh1, .slice g2 gs2 gh2, .slice g3 gs3 gh3]) EX from Ea_u73w.out.below hb (Nat.le_refl _)); clear he hb)
                refine hK.out _ _ ?_ ?_
                · exact .inr (HS.out _ Belu74w.out)
                clear hK K
                have c0 := cell_of_row u74w _ 0 _ _ _ z10_u74w.out
                have c1 := cell_of_row u74w _ 1 _ _ _ z10_u74w.out
                have c2 := cell_of_row u74w _ 2 _ _ _ z10_u74w.out
                have y0 := frozen_of_row u74w _ 0 _ _ z10_u74w.out
                have y1 := frozen_of_row u74w _ 1 _ _ z10_u74w.out
                have y2 := frozen_of_row u74w _ 2 _ _ z10_u74w.out
                refine nextL (i := 14) (by kernel_rfl) rfl (by kernel_rfl) (fun K hK => ?_)
                go_simp
                refine hK.out _ _ ?_ ?_
                · exact .inl (by kernel_rfl)
                clear hK K
                have hne : wc.heap.size ≠ u70w.heap.size := NE.out
                have V10 := (Vr.zero z10_u74w.out).put Ea_u74w.out
                have V11 := (Vr.zero z10_u74w.out).far (Vr.zero z11_u74w.out) hne (.slice g1 gs1 gh1) (.slice g2 gs2 gh2) (.slice g3 gs3 gh3)
                have E67 := Eb_u74w.out.put z10_u74w.out (.slice g1 gs1 gh1) (.slice g2 gs2 gh2) (.slice g3 gs3 gh3)
                have B7 := env_set Belu74w.out (show wc.heap.size ≤ wc.heap.size from (Nat.le_refl _)) (.slice g1 gs1 gh1) (.slice g2 gs2 gh2) (.slice g3 gs3 gh3)
                obtain ⟨W7, hW7⟩ : ∃ W, ((u74w.setCell ⟨wc.heap.size, 0, none⟩ (.slice g1 gs1 gh1)).setCell ⟨wc.heap.size, 1, none⟩ (.slice g2 gs2 gh2)).setCell ⟨wc.heap.size, 2, none⟩ (.slice g3 gs3 gh3) = W := ⟨_, rfl⟩
                rw [hW7] at V10 V11 E67 B7
                rw [hW7]
                clear hW7 c0 c1 c2 y0 y1 y2
                obtain ⟨_, _, _, _, _, _, _, _, _, ⟨c0, c1, c2⟩, ⟨y0, y1, y2⟩, -⟩ := V11.cells
                have U7 := Lib.hid (And.intro (V11.put E67) (And.intro (V11.far V10 (Ne.symm hne) (.slice j1 js1 jh1) (.slice j2 js2 jh2) (.slice j3 js3 jh3)) (env_set B7 (show wc.heap.size ≤ u70w.heap.size from Belu70w.out.size) (.slice j1 js1 jh1) (.slice j2 js2 jh2) (.slice j3 js3 jh3))))
                clear V10 V11 E67 B7 hne
                refine nextL (i := 15) (by kernel_rfl) rfl (by kernel_rfl) (fun K hK => ?_)
                go_simp
                refine hK.out _ _ ?_ ?_
                · exact .inl (by kernel_rfl)
                clear hK K
                refine doneL (by kernel_rfl) ?_ _
                go_wp2_with fail
                go_meet
                case rel => exact ⟨wc.heap.size, u70w.heap.size, rfl, rfl, U7.out.2.1, U7.out.1, U7.out.2.2⟩
            · go_simp
              refine hK.out _ _ ?_ ?_
              · exact .inr (HS.out _ (en_alloc Belu69w.out _))
              clear hK K
              obtain ⟨u75w, hu75w⟩ : ∃ W, u69w.alloc (.cells #[.slice none 0 0, .slice none 0 0, .slice none 0 0] 26) = W := ⟨_, rfl⟩
              rw [hu75w]
              have z11_u75w := Lib.hid (show Blk u75w u69w.heap.size (.cells #[.slice none 0 0, .slice none 0 0, .slice none 0 0] 26) by rw [← hu75w]; exact Blk.new rfl)
              have Belu75w := Lib.hid (show Below wc.heap.size wc u75w by rw [← hu75w]; exact (en_alloc Belu69w.out _))
              have z10_u75w := Lib.hid (show Blk u75w wc.heap.size (.cells #[.slice none 0 0, .slice none 0 0, .slice none 0 0] 26) by rw [← hu75w]; exact z10_u69w.out.alloc _)
              have NE := Lib.hid (show wc.heap.size ≠ u69w.heap.size from Nat.ne_of_lt z10_u69w.out.lt)
              clear hu75w
              refine nextL (i := 5) (by kernel_rfl) rfl (by kernel_rfl) (fun K hK => ?_)
              go_simp
              go_wp2_with (go_at_call 9; (refine (HCa.out _ Belu75w.out).mono ?_); rintro e u76w ⟨v5, rfl, he, hb⟩; obtain ⟨g1, gs1, gh1, g2, gs2, gh2, g3, gs3, gh3, rfl⟩ := he.bare; have Ea_u76w := Lib.hid he; have Belu76w := Lib.hid (show Below wc.heap.size wc u76w from en_trans Belu75w.out hb); have z10_u76w := Lib.hid (show Blk u76w wc.heap.size (.cells #[.slice none 0 0, .slice none 0 0, .slice none 0 0] 26) from z10_u75w.out.below hb); have z11_u76w := Lib.hid (show Blk u76w u69w.heap.size (.cells #[.slice none 0 0, .slice none 0 0, .slice none 0 0] 26) from z11_u75w.out.below hb); clear he hb)
              refine hK.out _ _ ?_ ?_
              · exact .inr (HS.out _ Belu76w.out)
              clear hK K
              refine nextL (i := 11) (by kernel_rfl) rfl (by kernel_rfl) (fun K hK => ?_)
              go_simp
              go_wp2_with (go_at_call 9; (refine (HCb.out _ Belu76w.out).mono ?_); rintro e u77w ⟨v5, rfl, he, hb⟩; obtain ⟨j1, js1, jh1, j2, js2, jh2, j3, js3, jh3, rfl⟩ := he.bare; have Eb_u77w := Lib.hid he; have Belu77w := Lib.hid (show Below wc.heap.size wc u77w from en_trans Belu76w.out hb); have z10_u77w := Lib.hid (show Blk u77w wc.heap.size (.cells #[.slice none 0 0, .slice none 0 0, .slice none 0 0] 26) from z10_u76w.out.below hb); have z11_u77w := Lib.hid (show Blk u77w u69w.heap.size (.cells #[.slice none 0 0, .slice none 0 0, .slice none 0 0] 26) from z11_u76w.out.below hb); have Ea_u77w := Lib.hid (show EnvAt u77w (.agg #[.slice g1 gs1 gh1, .slice g2 gs2 gh2, .slice g3 gs3 gh3]) EX from Ea_u76w.out.below hb (Nat.le_refl _)); clear he hb)
              refine hK.out _ _ ?_ ?_
              · exact .inr (HS.out _ Belu77w.out)
              clear hK K
              have c0 := cell_of_row u77w _ 0 _ _ _ z10_u77w.out
              have c1 := cell_of_row u77w _ 1 _ _ _ z10_u77w.out
              have c2 := cell_of_row u77w _ 2 _ _ _ z10_u77w.out
              have y0 := frozen_of_row u77w _ 0 _ _ z10_u77w.out
              have y1 := frozen_of_row u77w _ 1 _ _ z10_u77w.out
              have y2 := frozen_of_row u77w _ 2 _ _ z10_u77w.out
              refine nextL (i := 14) (by kernel_rfl) rfl (by kernel_rfl) (fun K hK => ?_)
              go_simp
              refine hK.out _ _ ?_ ?_
              · exact .inl (by kernel_rfl)
              clear hK K
              have hne : wc.heap.size ≠ u69w.heap.size := NE.out
              have V10 := (Vr.zero z10_u77w.out).put Ea_u77w.out
              have V11 := (Vr.zero z10_u77w.out).far (Vr.zero z11_u77w.out) hne (.slice g1 gs1 gh1) (.slice g2 gs2 gh2) (.slice g3 gs3 gh3)
              have E67 := Eb_u77w.out.put z10_u77w.out (.slice g1 gs1 gh1) (.slice g2 gs2 gh2) (.slice g3 gs3 gh3)
              have B7 := env_set Belu77w.out (show wc.heap.size ≤ wc.heap.size from (Nat.le_refl _)) (.slice g1 gs1 gh1) (.slice g2 gs2 gh2) (.slice g3 gs3 gh3)
              obtain ⟨W7, hW7⟩ : ∃ W, ((u77w.setCell ⟨wc.heap.size, 0, none⟩ (.slice g1 gs1 gh1)).setCell ⟨wc.heap.size, 1, none⟩ (.slice g2 gs2 gh2)).setCell ⟨wc.heap.size, 2, none⟩ (.slice g3 gs3 gh3) = W := ⟨_, rfl⟩
              rw [hW7] at V10 V11 E67 B7
              rw [hW7]
              clear hW7 c0 c1 c2 y0 y1 y2
              obtain ⟨_, _, _, _, _, _, _, _, _, ⟨c0, c1, c2⟩, ⟨y0, y1, y2⟩, -⟩ := V11.cells
              have U7 := Lib.hid (And.intro (V11.put E67) (And.intro (V11.far V10 (Ne.symm hne) (.slice j1 js1 jh1) (.slice j2 js2 jh2) (.slice j3 js3 jh3)) (env_set B7 (show wc.heap.size ≤ u69w.heap.size from Belu69w.out.size) (.slice j1 js1 jh1) (.slice j2 js2 jh2) (.slice j3 js3 jh3))))
              clear V10 V11 E67 B7 hne
              refine nextL (i := 15) (by kernel_rfl) rfl (by kernel_rfl) (fun K hK => ?_)
              go_simp
              refine hK.out _ _ ?_ ?_
              · exact .inl (by kernel_rfl)
              clear hK K
              refine doneL (by kernel_rfl) ?_ _
              go_wp2_with fail
              go_meet
              case rel => exact ⟨wc.heap.size, u69w.heap.size, rfl, rfl, U7.out.2.1, U7.out.1, U7.out.2.2⟩
          · go_simp
            refine hK.out _ _ ?_ ?_
            · exact .inr (HS.out _ (en_alloc (Below.refl _ _) _).drew)
            clear hK K
            obtain ⟨u78w, hu78w⟩ : ∃ W, (wc.alloc (.cells #[.slice none 0 0, .slice none 0 0, .slice none 0 0] 26)).drew = W := ⟨_, rfl⟩
            rw [hu78w]
            have z11_u78w := Lib.hid (show Blk u78w wc.heap.size (.cells #[.slice none 0 0, .slice none 0 0, .slice none 0 0] 26) by rw [← hu78w]; exact Blk.new rfl)
            have Belu78w := Lib.hid (show Below wc.heap.size wc u78w by rw [← hu78w]; exact (en_alloc (Below.refl _ _) _).drew)
            clear hu78w
            refine twoL (i := 5) (j := 12) (by kernel_rfl) rfl rfl (by kernel_rfl) (by kernel_rfl) (fun K hK => ?_) (fun K hK => ?_)
            · go_simp
              go_wp2_with (go_at_call 9; (refine (HCa.out _ Belu78w.out).mono ?_); rintro e u79w ⟨v5, rfl, he, hb⟩; obtain ⟨g1, gs1, gh1, g2, gs2, gh2, g3, gs3, gh3, rfl⟩ := he.bare; have Ea_u79w := Lib.hid he; have Belu79w := Lib.hid (show Below wc.heap.size wc u79w from en_trans Belu78w.out hb); have z11_u79w := Lib.hid (show Blk u79w wc.heap.size (.cells #[.slice none 0 0, .slice none 0 0, .slice none 0 0] 26) from z11_u78w.out.below hb); clear he hb)
              refine hK.out _ _ ?_ ?_
              · exact .inr (HS.out _ Belu79w.out)
              clear hK K
              refine twoL (i := 11) (j := 12) (by kernel_rfl) rfl rfl (by kernel_rfl) (by kernel_rfl) (fun K hK => ?_) (fun K hK => ?_)
              · go_simp
                go_wp2_with (go_at_call 9; (refine (HCb.out _ Belu79w.out).mono ?_); rintro e u80w ⟨v5, rfl, he, hb⟩; obtain ⟨j1, js1, jh1, j2, js2, jh2, j3, js3, jh3, rfl⟩ := he.bare; have Eb_u80w := Lib.hid he; have Belu80w := Lib.hid (show Below wc.heap.size wc u80w from en_trans Belu79w.out hb); have z11_u80w := Lib.hid (show Blk u80w wc.heap.size (.cells #[.slice none 0 0, .slice none 0 0, .slice none 0 0] 26) from z11_u79w.out.below hb); have Ea_u80w := Lib.hid (show EnvAt u80w (.agg #[.slice g1 gs1 gh1, .slice g2 gs2 gh2, .slice g3 gs3 gh3]) EX from Ea_u79w.out.below hb (Nat.le_refl _)); clear he hb)
                refine hK.out _ _ ?_ ?_
                · exact .inr (HS.out _ Belu80w.out)
                clear hK K
                refine nextL (i := 12) (by kernel_rfl) rfl (by kernel_rfl) (fun K hK => ?_)
                go_simp
                refine hK.out _ _ ?_ ?_
                · exact .inr (HS.out _ (en_alloc Belu80w.out _))
                clear hK K
                obtain ⟨u81w, hu81w⟩ : ∃ W, u80w.alloc (.cells #[.slice none 0 0, .slice none 0 0, .slice none 0 0] 26) = W := ⟨_, rfl⟩
                rw [hu81w]
                have z10_u81w := Lib.hid (show Blk u81w u80w.heap.size (.cells #[.slice none 0 0, .slice none 0 0, .slice none 0 0] 26) by rw [← hu81w]; exact Blk.new rfl)
                have Belu81w := Lib.hid (show Below wc.heap.size wc u81w by rw [← hu81w]; exact (en_alloc Belu80w.out _))
                have z11_u81w := Lib.hid (show Blk u81w wc.heap.size (.cells #[.slice none 0 0, .slice none 0 0, .slice none 0 0] 26) by rw [← hu81w]; exact z11_u80w.out.alloc _)
                have Ea_u81w := Lib.hid (show EnvAt u81w (.agg #[.slice g1 gs1 gh1, .slice g2 gs2 gh2, .slice g3 gs3 gh3]) EX by rw [← hu81w]; exact Ea_u80w.out.below (en_alloc (Below.refl _ _) _) (Nat.le_refl _))
                have Eb_u81w := Lib.hid (show EnvAt u81w (.agg #[.slice j1 js1 jh1, .slice j2 js2 jh2, .slice j3 js3 jh3]) EY by rw [← hu81w]; exact Eb_u80w.out.below (en_alloc (Below.refl _ _) _) (Nat.le_refl _))
                have NE := Lib.hid (show wc.heap.size ≠ u80w.heap.size from Nat.ne_of_lt z11_u80w.out.lt)
                clear hu81w
                have c0 := cell_of_row u81w _ 0 _ _ _ z10_u81w.out
                have c1 := cell_of_row u81w _ 1 _ _ _ z10_u81w.out
                have c2 := cell_of_row u81w _ 2 _ _ _ z10_u81w.out
                have y0 := frozen_of_row u81w _ 0 _ _ z10_u81w.out
                have y1 := frozen_of_row u81w _ 1 _ _ z10_u81w.out
                have y2 := frozen_of_row u81w _ 2 _ _ z10_u81w.out
                refine nextL (i := 14) (by kernel_rfl) rfl (by kernel_rfl) (fun K hK => ?_)
                go_simp
                refine hK.out _ _ ?_ ?_
                · exact .inl (by kernel_rfl)
                clear hK K
                have hne : u80w.heap.size ≠ wc.heap.size := (Ne.symm NE.out)
                have V10 := (Vr.zero z10_u81w.out).put Ea_u81w.out
                have V11 := (Vr.zero z10_u81w.out).far (Vr.zero z11_u81w.out) hne (.slice g1 gs1 gh1) (.slice g2 gs2 gh2) (.slice g3 gs3 gh3)
                have E67 := Eb_u81w.out.put z10_u81w.out (.slice g1 gs1 gh1) (.slice g2 gs2 gh2) (.slice g3 gs3 gh3)
                have B7 := env_set Belu81w.out (show wc.heap.size ≤ u80w.heap.size from Belu80w.out.size) (.slice g1 gs1 gh1) (.slice g2 gs2 gh2) (.slice g3 gs3 gh3)
                obtain ⟨W7, hW7⟩ : ∃ W, ((u81w.setCell ⟨u80w.heap.size, 0, none⟩ (.slice g1 gs1 gh1)).setCell ⟨u80w.heap.size, 1, none⟩ (.slice g2 gs2 gh2)).setCell ⟨u80w.heap.size, 2, none⟩ (.slice g3 gs3 gh3) = W := ⟨_, rfl⟩
                rw [hW7] at V10 V11 E67 B7
                rw [hW7]
                clear hW7 c0 c1 c2 y0 y1 y2
                obtain ⟨_, _, _, _, _, _, _, _, _, ⟨c0, c1, c2⟩, ⟨y0, y1, y2⟩, -⟩ := V11.cells
                have U7 := Lib.hid (And.intro (V11.put E67) (And.intro (V11.far V10 (Ne.symm hne) (.slice j1 js1 jh1) (.slice j2 js2 jh2) (.slice j3 js3 jh3)) (env_set B7 (show wc.heap.size ≤ wc.heap.size from (Nat.le_refl _)) (.slice j1 js1 jh1) (.slice j2 js2 jh2) (.slice j3 js3 jh3))))
                clear V10 V11 E67 B7 hne
                refine nextL (i := 15) (by kernel_rfl) rfl (by kernel_rfl) (fun K hK => ?_)
                go_simp
                refine hK.out _ _ ?_ ?_
                · exact .inl (by kernel_rfl)
                clear hK K
                refine doneL (by kernel_rfl) ?_ _
                go_wp2_with fail
                go_meet
                case rel => exact ⟨u80w.heap.size, wc.heap.size, rfl, rfl, U7.out.2.1, U7.out.1, U7.out.2.2⟩
              · go_simp
                refine hK.out _ _ ?_ ?_
                · exact .inr (HS.out _ (en_alloc Belu79w.out _))
                clear hK K
                obtain ⟨u82w, hu82w⟩ : ∃ W, u79w.alloc (.cells #[.slice none 0 0, .slice none 0 0, .slice none 0 0] 26) = W := ⟨_, rfl⟩
                rw [hu82w]
                have z10_u82w := Lib.hid (show Blk u82w u79w.heap.size (.cells #[.slice none 0 0, .slice none 0 0, .slice none 0 0] 26) by rw [← hu82w]; exact Blk.new rfl)
                have Belu82w := Lib.hid (show Below wc.heap.size wc u82w by rw [← hu82w]; exact (en_alloc Belu79w.out _))
                have z11_u82w := Lib.hid (show Blk u82w wc.heap.size (.cells #[.slice none 0 0, .slice none 0 0, .slice none 0 0] 26) by rw [← hu82w]; exact z11_u79w.out.alloc _)
                have Ea_u82w := Lib.hid (show EnvAt u82w (.agg #[.slice g1 gs1 gh1, .slice g2 gs2 gh2, .slice g3 gs3 gh3]) EX by rw [← hu82w]; exact Ea_u79w.out.below (en_alloc (Below.refl _ _) _) (Nat.le_refl _))
                have NE := Lib.hid (show wc.heap.size ≠ u79w.heap.size from Nat.ne_of_lt z11_u79w.out.lt)
                clear hu82w
                refine nextL (i := 11) (by kernel_rfl) rfl (by kernel_rfl) (fun K hK => ?_)
                go_simp
                go_wp2_with (go_at_call 9; (refine (HCb.out _ Belu82w.out).mono ?_); rintro e u83w ⟨v5, rfl, he, hb⟩; obtain ⟨j1, js1, jh1, j2, js2, jh2, j3, js3, jh3, rfl⟩ := he.bare; have Eb_u83w := Lib.hid he; have Belu83w := Lib.hid (show Below wc.heap.size wc u83w from en_trans Belu82w.out hb); have z11_u83w := Lib.hid (show Blk u83w wc.heap.size (.cells #[.slice none 0 0, .slice none 0 0, .slice none 0 0] 26) from z11_u82w.out.below hb); have z10_u83w := Lib.hid (show Blk u83w u79w.heap.size (.cells #[.slice none 0 0, .slice none 0 0, .slice none 0 0] 26) from z10_u82w.out.below hb); have Ea_u83w := Lib.hid (show EnvAt u83w (.agg #[.slice g1 gs1 gh1, .slice g2 gs2 gh2, .slice g3 gs3 gh3]) EX from Ea_u82w.out.below hb (Nat.le_refl _)); clear he hb)
                refine hK.out _ _ ?_ ?_
                · exact .inr (HS.out _ Belu83w.out)
                clear hK K
                have c0 := cell_of_row u83w _ 0 _ _ _ z10_u83w.out
                have c1 := cell_of_row u83w _ 1 _ _ _ z10_u83w.out
                have c2 := cell_of_row u83w _ 2 _ _ _ z10_u83w.out
                have y0 := frozen_of_row u83w _ 0 _ _ z10_u83w.out
                have y1 := frozen_of_row u83w _ 1 _ _ z10_u83w.out
                have y2 := frozen_of_row u83w _ 2 _ _ z10_u83w.out
                refine nextL (i := 14) (by kernel_rfl) rfl (by kernel_rfl) (fun K hK => ?_)
                go_simp
                refine hK.out _ _ ?_ ?_
                · exact .inl (by kernel_rfl)
                clear hK K
                have hne : u79w.heap.size ≠ wc.heap.size := (Ne.symm NE.out)
                have V10 := (Vr.zero z10_u83w.out).put Ea_u83w.out
                have V11 := (Vr.zero z10_u83w.out).far (Vr.zero z11_u83w.out) hne (.slice g1 gs1 gh1) (.slice g2 gs2 gh2) (.slice g3 gs3 gh3)
                have E67 := Eb_u83w.out.put z10_u83w.out (.slice g1 gs1 gh1) (.slice g2 gs2 gh2) (.slice g3 gs3 gh3)
                have B7 := env_set Belu83w.out (show wc.heap.size ≤ u79w.heap.size from Belu79w.out.size) (.slice g1 gs1 gh1) (.slice g2 gs2 gh2) (.slice g3 gs3 gh3)
                obtain ⟨W7, hW7⟩ : ∃ W, ((u83w.setCell ⟨u79w.heap.size, 0, none⟩ (.slice g1 gs1 gh1)).setCell ⟨u79w.heap.size, 1, none⟩ (.slice g2 gs2 gh2)).setCell ⟨u79w.heap.size, 2, none⟩ (.slice g3 gs3 gh3) = W := ⟨_, rfl⟩
                rw [hW7] at V10 V11 E67 B7
                rw [hW7]
                clear hW7 c0 c1 c2 y0 y1 y2
                obtain ⟨_, _, _, _, _, _, _, _, _, ⟨c0, c1, c2⟩, ⟨y0, y1, y2⟩, -⟩ := V11.cells
                have U7 := Lib.hid (And.intro (V11.put E67) (And.intro (V11.far V10 (Ne.symm hne) (.slice j1 js1 jh1) (.slice j2 js2 jh2) (.slice j3 js3 jh3)) (env_set B7 (show wc.heap.size ≤ wc.heap.size from (Nat.le_refl _)) (.slice j1 js1 jh1) (.slice j2 js2 jh2) (.slice j3 js3 jh3))))
                clear V10 V11 E67 B7 hne
                refine nextL (i := 15) (by kernel_rfl) rfl (by kernel_rfl) (fun K hK => ?_)
                go_simp
                refine hK.out _ _ ?_ ?_
                · exact .inl (by kernel_rfl)
                clear hK K
                refine doneL (by kernel_rfl) ?_ _
                go_wp2_with fail
                go_meet
                case rel => exact ⟨u79w.heap.size, wc.heap.size, rfl, rfl, U7.out.2.1, U7.out.1, U7.out.2.2⟩
            · go_simp
              refine hK.out _ _ ?_ ?_
              · exact .inr (HS.out _ (en_alloc Belu78w.out _))
              clear hK K
              obtain ⟨u84w, hu84w⟩ : ∃ W, u78w.alloc (.cells #[.slice none 0 0, .slice none 0 0, .slice none 0 0] 26) = W := ⟨_, rfl⟩
              rw [hu84w]
              have z10_u84w := Lib.hid (show Blk u84w u78w.heap.size (.cells #[.slice none 0 0, .slice none 0 0, .slice none 0 0] 26) by rw [← hu84w]; exact Blk.new rfl)
              have Belu84w := Lib.hid (show Below wc.heap.size wc u84w by rw [← hu84w]; exact (en_alloc Belu78w.out _))
              have z11_u84w := Lib.hid (show Blk u84w wc.heap.size (.cells #[.slice none 0 0, .slice none 0 0, .slice none 0 0] 26) by rw [← hu84w]; exact z11_u78w.out.alloc _)
              have NE := Lib.hid (show wc.heap.size ≠ u78w.heap.size from Nat.ne_of_lt z11_u78w.out.lt)
              clear hu84w
              refine nextL (i := 5) (by kernel_rfl) rfl (by kernel_rfl) (fun K hK => ?_)
              go_simp
              go_wp2_with (go_at_call 9; (refine (HCa.out _ Belu84w.out).mono ?_); rintro e u85w ⟨v5, rfl, he, hb⟩; obtain ⟨g1, gs1, gh1, g2, gs2, gh2, g3, gs3, gh3, rfl⟩ := he.bare; have Ea_u85w := Lib.hid he; have Belu85w := Lib.hid (show Below wc.heap.size wc u85w from en_trans Belu84w.out hb); have z11_u85w := Lib.hid (show Blk u85w wc.heap.size (.cells #[.slice none 0 0, .slice none 0 0, .slice none 0 0] 26) from z11_u84w.out.below hb); have z10_u85w := Lib.hid (show Blk u85w u78w.heap.size (.cells #[.slice none 0 0, .slice none 0 0, .slice none 0 0] 26) from z10_u84w.out.below hb); clear he hb)
              refine hK.out _ _ ?_ ?_
              · exact .inr (HS.out _ Belu85w.out)
              clear hK K
              refine nextL (i := 11) (by kernel_rfl) rfl (by kernel_rfl) (fun K hK => ?_)
              go_simp
              go_wp2_with (go_at_call 9; (refine (HCb.out _ Belu85w.out).mono ?_); rintro e u86w ⟨v5, rfl, he, hb⟩; obtain ⟨j1, js1, jh1, j2, js2, jh2, j3, js3, jh3, rfl⟩ := he.bare; have Eb_u86w := Lib.hid he; have Belu86w := Lib.hid (show Below wc.heap.size wc u86w from en_trans Belu85w.out hb); have z11_u86w := Lib.hid (show Blk u86w wc.heap.size (.cells #[.slice none 0 0, .slice none 0 0, .slice none 0 0] 26) from z11_u85w.out.below hb); have z10_u86w := Lib.hid (show Blk u86w u78w.heap.size (.cells #[.slice none 0 0, .slice none 0 0, .slice none 0 0] 26) from z10_u85w.out.below hb); have Ea_u86w := Lib.hid (show EnvAt u86w (.agg #[.slice g1 gs1 gh1, .slice g2 gs2 gh2, .slice g3 gs3 gh3]) EX from Ea_u85w.out.below hb (Nat.le_refl _)); clear he hb)
              refine hK.out _ _ ?_ ?_
              · exact .inr (HS.out _ Belu86w.out)
              clear hK K
              have c0 := cell_of_row u86w _ 0 _ _ _ z10_u86w.out
              have c1 := cell_of_row u86w _ 1 _ _ _ z10_u86w.out
              have c2 := cell_of_row u86w _ 2 _ _ _ z10_u86w.out
              have y0 := frozen_of_row u86w _ 0 _ _ z10_u86w.out
              have y1 := frozen_of_row u86w _ 1 _ _ z10_u86w.out
              have y2 := frozen_of_row u86w _ 2 _ _ z10_u86w.out
              refine nextL (i := 14) (by kernel_rfl) rfl (by kernel_rfl) (fun K hK => ?_)
              go_simp
              refine hK.out _ _ ?_ ?_
              · exact .inl (by kernel_rfl)
              clear hK K
              have hne : u78w.heap.size ≠ wc.heap.size := (Ne.symm NE.out)
              have V10 := (Vr.zero z10_u86w.out).put Ea_u86w.out
              have V11 := (Vr.zero z10_u86w.out).far (Vr.zero z11_u86w.out) hne (.slice g1 gs1 gh1) (.slice g2 gs2 gh2) (.slice g3 gs3 gh3)
              have E67 := Eb_u86w.out.put z10_u86w.out (.slice g1 gs1 gh1) (.slice g2 gs2 gh2) (.slice g3 gs3 gh3)
              have B7 := env_set Belu86w.out (show wc.heap.size ≤ u78w.heap.size from Belu78w.out.size) (.slice g1 gs1 gh1) (.slice g2 gs2 gh2) (.slice g3 gs3 gh3)
              obtain ⟨W7, hW7⟩ : ∃ W, ((u86w.setCell ⟨u78w.heap.size, 0, none⟩ (.slice g1 gs1 gh1)).setCell ⟨u78w.heap.size, 1, none⟩ (.slice g2 gs2 gh2)).setCell ⟨u78w.heap.size, 2, none⟩ (.slice g3 gs3 gh3) = W := ⟨_, rfl⟩
              rw [hW7] at V10 V11 E67 B7
              rw [hW7]
              clear hW7 c0 c1 c2 y0 y1 y2
              obtain ⟨_, _, _, _, _, _, _, _, _, ⟨c0, c1, c2⟩, ⟨y0, y1, y2⟩, -⟩ := V11.cells
              have U7 := Lib.hid (And.intro (V11.put E67) (And.intro (V11.far V10 (Ne.symm hne) (.slice j1 js1 jh1) (.slice j2 js2 jh2) (.slice j3 js3 jh3)) (env_set B7 (show wc.heap.size ≤ wc.heap.size from (Nat.le_refl _)) (.slice j1 js1 jh1) (.slice j2 js2 jh2) (.slice j3 js3 jh3))))
              clear V10 V11 E67 B7 hne
              refine nextL (i := 15) (by kernel_rfl) rfl (by kernel_rfl) (fun K hK => ?_)
              go_simp
              refine hK.out _ _ ?_ ?_
              · exact .inl (by kernel_rfl)
              clear hK K
              refine doneL (by kernel_rfl) ?_ _
              go_wp2_with fail
              go_meet
              case rel => exact ⟨u78w.heap.size, wc.heap.size, rfl, rfl, U7.out.2.1, U7.out.1, U7.out.2.2⟩
        case rest =>
          obtain ⟨gx, gy, rfl, rfl, hvx, hvy, hbd⟩ := hcut
          have V9' := V9.out.below hbd
          have VX' := VXc.out.below hbd
          have AA' := AAc.out.below hbd
          have AB' := ABc.out.below hbd
          have BF := Lib.hid (BC.out.trans (hbd.mono BC.out.size))
          obtain ⟨x1, m1, d1, x2, m2, d2, x3, m3, d3, ⟨k0, k1, k2⟩, -, ex⟩ := VX'.cells
          obtain ⟨y1, n1, i1, y2, n2, i2, y3, n3, i3, ⟨k3, k4, k5⟩, -, ey⟩ := V9'.cells
          obtain ⟨z1, p1, s1, z2, p2, s2, z3, p3, s3, ⟨k6, k7, k8⟩, -, ez⟩ := hvx.cells
          obtain ⟨v1, q1, t1, v2, q2, t2, v3, q3, t3, ⟨k9, k10, k11⟩, -, ev⟩ := hvy.cells
          obtain ⟨-, a1, a2, a3⟩ := AA'.cells
          obtain ⟨-, b1, b2, b3⟩ := AB'.cells
          have HS2 := Lib.hid (fun (W : World) (hW : Below wc.heap.size wc W) => (show ((W.cell? ⟨X7, 0, none⟩ = some (.slice x1 m1 d1) ∧ W.cell? ⟨X7, 1, none⟩ = some (.slice x2 m2 d2) ∧ W.cell? ⟨X7, 2, none⟩ = some (.slice x3 m3 d3)) ∧ (W.cell? ⟨g9, 0, none⟩ = some (.slice y1 n1 i1) ∧ W.cell? ⟨g9, 1, none⟩ = some (.slice y2 n2 i2) ∧ W.cell? ⟨g9, 2, none⟩ = some (.slice y3 n3 i3))) ∧ ((W.cell? ⟨gx, 0, none⟩ = some (.slice z1 p1 s1) ∧ W.cell? ⟨gx, 1, none⟩ = some (.slice z2 p2 s2) ∧ W.cell? ⟨gx, 2, none⟩ = some (.slice z3 p3 s3)) ∧ (W.cell? ⟨gy, 0, none⟩ = some (.slice v1 q1 t1) ∧ W.cell? ⟨gy, 1, none⟩ = some (.slice v2 q2 t2) ∧ W.cell? ⟨gy, 2, none⟩ = some (.slice v3 q3 t3))) ∧ ((W.cell? ⟨XA, 1, none⟩ = some (.string a.name) ∧ W.cell? ⟨XA, 2, none⟩ = some (.string a.value)) ∧ (W.cell? ⟨XB, 1, none⟩ = some (.string b.name) ∧ W.cell? ⟨XB, 2, none⟩ = some (.string b.value) ∧ W.cell? ⟨XB, 3, none⟩ = some (.int .i64 b.n))) from
            ⟨⟨⟨(hW.cell (p := ⟨X7, 0, none⟩) VX'.lt).trans k0, (hW.cell (p := ⟨X7, 1, none⟩) VX'.lt).trans k1, (hW.cell (p := ⟨X7, 2, none⟩) VX'.lt).trans k2⟩, (hW.cell (p := ⟨g9, 0, none⟩) V9'.lt).trans k3, (hW.cell (p := ⟨g9, 1, none⟩) V9'.lt).trans k4, (hW.cell (p := ⟨g9, 2, none⟩) V9'.lt).trans k5⟩,
             ⟨⟨(hW.cell (p := ⟨gx, 0, none⟩) hvx.lt).trans k6, (hW.cell (p := ⟨gx, 1, none⟩) hvx.lt).trans k7, (hW.cell (p := ⟨gx, 2, none⟩) hvx.lt).trans k8⟩, (hW.cell (p := ⟨gy, 0, none⟩) hvy.lt).trans k9, (hW.cell (p := ⟨gy, 1, none⟩) hvy.lt).trans k10, (hW.cell (p := ⟨gy, 2, none⟩) hvy.lt).trans k11⟩,
             ⟨(hW.cell (p := ⟨XA, 1, none⟩) AA'.lt).trans a1, (hW.cell (p := ⟨XA, 2, none⟩) AA'.lt).trans a2⟩, (hW.cell (p := ⟨XB, 1, none⟩) AB'.lt).trans b1, (hW.cell (p := ⟨XB, 2, none⟩) AB'.lt).trans b2, (hW.cell (p := ⟨XB, 3, none⟩) AB'.lt).trans b3⟩))
          have hox : Ordd EX.vars ∧ Ordd EX.funs ∧ Fit EX ∧ getM EX.vars a.name = some a.value := by rw [HEE.out.1]; exact ⟨ord_set FI.out.vars, FI.out.funs, HFF.out.2.1, get_set FI.out.vars⟩
          have hoy : Ordd EY.vars ∧ Fit EY ∧ getM EY.vars b.name = some b.value := by rw [HEE.out.2]; exact ⟨ord_set FI.out.vars, HFF.out.2.2, get_set FI.out.vars⟩
          have HD1 := Lib.hid (fun W (hW : Below wc.heap.size wc W) => unset_any b.name _ W (ez.below hW (Nat.le_refl _)) hox.2.2.1 hox.1)
          have HD2 := Lib.hid (fun W (hW : Below wc.heap.size wc W) => define_any b.name b.n _ W (ez.below hW (Nat.le_refl _)) hox.2.2.1 hox.2.1)
          have HD3 := Lib.hid (fun W (hW : Below wc.heap.size wc W) => getV_any a.name _ W (ez.below hW (Nat.le_refl _)) hox.2.2.1 hox.1)
          have HD4 := Lib.hid (fun W (hW : Below wc.heap.size wc W) => getV_any b.name _ W (ev.below hW (Nat.le_refl _)) hoy.2.1 hoy.1)
          have HD5 := Lib.hid (fun W (hW : Below wc.heap.size wc W) => rsame_any _ _ W (ex.below hW (Nat.le_refl _)) (ey.below hW (Nat.le_refl _)) HFF.out.1)
          rw [hox.2.2.2] at HD3
          rw [hoy.2.2] at HD4
          rw [decide_eq_true rfl] at HD5
          simp only [Option.getD_some, Option.isSome_some] at HD3 HD4
          have w1 : (a.value.toList == a.value.toList) = true := by simp
          have w2 : (b.value.toList == b.value.toList) = true := by simp
          clear V9' VX' AA' AB' hbd ex ey ez ev hvx hvy hox hoy HS HCa HCb k0 k1 k2 k3 k4 k5 a3
          go_wp2_with (first
            | (go_at_call 11; (refine (HD1.out wc (Below.refl _ _)).mono ?_); rintro e w3 ⟨v5, rfl, he, hb⟩; obtain ⟨-, ⟨⟨k6, k7, k8⟩, k9, k10, k11⟩, ⟨a1, a2⟩, b1, b2, b3⟩ := HS2.out w3 hb; have C3 := Lib.hid hb; clear he hb HD1)
            | (go_at_call 13; (refine (HD2.out w3 C3.out).mono ?_); rintro e w4 ⟨v5, rfl, he, hb⟩; obtain ⟨-, ⟨⟨k6, k7, k8⟩, k9, k10, k11⟩, ⟨a1, a2⟩, b1, b2, b3⟩ := HS2.out w4 (en_trans C3.out hb); have C4 := Lib.hid (en_trans C3.out hb); clear he hb HD2)
            | (go_at_call 15; (refine (HD3.out w4 C4.out).mono ?_); rintro e w5 ⟨rfl, hb⟩; obtain ⟨-, ⟨-, k9, k10, k11⟩, ⟨a1, a2⟩, b1, b2, b3⟩ := HS2.out w5 (en_trans C4.out hb); have C5 := Lib.hid (en_trans C4.out hb); clear hb HD3)
            | (go_at_call 15; (refine (HD4.out w5 C5.out).mono ?_); rintro e w6 ⟨rfl, hb⟩; obtain ⟨⟨⟨k0, k1, k2⟩, k3, k4, k5⟩, -, ⟨a1, a2⟩, b1, b2, b3⟩ := HS2.out w6 (en_trans C5.out hb); have C6 := Lib.hid (en_trans C5.out hb); clear hb HD4)
            | (go_at_call 21; (refine (HD5.out w6 C6.out).mono ?_); rintro e w7 ⟨rfl, hb⟩; obtain ⟨-, -, ⟨a1, a2⟩, b1, b2, b3⟩ := HS2.out w7 (en_trans C6.out hb); have C7 := Lib.hid (en_trans C6.out hb); clear hb HD5)
            | (go_at_call 8; (refine (known_any w7).mono ?_); rintro e w8 ⟨rfl, hb⟩; have C8 := Lib.hid (en_trans C7.out hb); clear hb))
          go_ret
          exact ⟨rfl, BF.out.trans (C8.out.mono BF.out.size)⟩
theorem own_law {l : List Ac} (vl : Value) (a b : Ac) (w : World) (hl : Rd 4 aC w vl l) :
    Calls Try.prog 4 #[vl, .agg #[.int .i64 a.kind, .string a.name, .string a.value, .int .i64 a.n], .agg #[.int .i64 b.kind, .string b.name, .string b.value, .int .i64 b.n]] w fun e w' => e = .returned (.bool true) ∧ Below w.heap.size w w' := by
  obtain ⟨pl, cl, rfl⟩ := hl.shape
  by_cases h : 20 < l.length
  · exact own_many _ _ _ a b w h
  · exact own_few _ _ a b w hl (by omega)
end Go.Proofs.Ytbbopbbnhkcfdaa
