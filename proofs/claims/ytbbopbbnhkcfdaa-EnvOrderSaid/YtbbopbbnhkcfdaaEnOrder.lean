/-
  Proved: the walk of the law EnvOrder: it answers true and changes nothing that was there. Conditions: none.
-/
import Derived.Test.YtbbopbbnhkcfdaaEnKnown
import Derived.Test.YtbbopbbnhkcfdaaEnUnset
import Derived.Test.YtbbopbbnhkcfdaaEnDefine
import Derived.Test.YtbbopbbnhkcfdaaEnRSame
namespace Go.Proofs.Ytbbopbbnhkcfdaa
open Go Go.RowKit EnMath

section
variable {β : Type}
theorem set_one (a : ByteArray) (v : β) : setM [] a v = [(a, v)] := rfl
theorem set_same (a : ByteArray) (v w : β) : setM [(a, v)] a w = [(a, w)] := by
  have : delM [(a, v)] a = [] := by simp [delM, eqN_self]
  simp [setM, this]
theorem set_lt {a b : ByteArray} (v w : β) (h : ltN a b = true) : setM [(a, v)] b w = [(a, v), (b, w)] := by
  have : delM [(a, v)] b = [(a, v)] := by simp [delM, lt_ne h]
  simp [setM, this, h]
theorem set_gt {a b : ByteArray} (v w : β) (h : ltN a b = true) : setM [(b, w)] a v = [(a, v), (b, w)] := by
  have h1 : eqN b a = false := by rw [eqN_comm]; exact lt_ne h
  have : delM [(b, w)] a = [(b, w)] := by simp [delM, h1]
  simp [setM, this, lt_asymm h]
/-- Two names that are unlike, in whichever order. -/
theorem set_two {a b : ByteArray} (v w : β) (h : eqN a b = false) : ∃ L : List (ByteArray × β), setM [(a, v)] b w = L ∧ setM [(b, w)] a v = L ∧ L.length = 2 ∧ Ordd L ∧ delM L a = [(b, w)] := by
  cases k : ltN a b
  · have k2 := lt_total k h
    refine ⟨[(b, w), (a, v)], set_gt w v k2, set_lt w v k2, rfl, List.pairwise_cons.2 ⟨by simpa using k2, List.pairwise_singleton _ _⟩, ?_⟩
    have h1 : eqN b a = false := by rw [eqN_comm]; exact h
    simp [delM, h1, eqN_self]
  · refine ⟨[(a, v), (b, w)], set_lt v w k, set_gt v w k, rfl, List.pairwise_cons.2 ⟨by simpa using k, List.pairwise_singleton _ _⟩, ?_⟩
    have h1 : eqN b a = false := by rw [eqN_comm]; exact h
    simp [delM, h1, eqN_self]
theorem ord_one (a : ByteArray) (v : β) : Ordd [(a, v)] := List.pairwise_singleton _ _
end
def nilE : Value := .agg #[.slice none 0 0, .slice none 0 0, .slice none 0 0]
theorem set_nil (a v : ByteArray) (W : World) :
    Calls Try.prog 9 #[.agg #[.slice none 0 0, .slice none 0 0, .slice none 0 0], .string a, .string v] W fun e w' => ∃ v', e = .returned v' ∧ EnvAt w' v' ⟨[(a, v)], [], []⟩ ∧ Below W.heap.size W w' :=
  set_any (E := ⟨[], [], []⟩) a v _ W (env_nil W) ⟨by decide, by decide, by decide⟩ ord_nil
theorem define_nil (a : ByteArray) (v : Int) (W : World) :
    Calls Try.prog 13 #[.agg #[.slice none 0 0, .slice none 0 0, .slice none 0 0], .string a, .int .i64 v] W fun e w' => ∃ v', e = .returned v' ∧ EnvAt w' v' ⟨[], [], [(a, v)]⟩ ∧ Below W.heap.size W w' :=
  define_any (E := ⟨[], [], []⟩) a v _ W (env_nil W) ⟨by decide, by decide, by decide⟩ ord_nil

theorem order_same (a v w : ByteArray) (W0 : World) :
    Calls Try.prog 5 #[.string a, .string a, .string v, .string w] W0 fun e w' => e = .returned (.bool true) ∧ Below W0.heap.size W0 w' := by
  have H1 := Lib.hid (set_nil a v W0)
  have H2 := Lib.hid (fun (W : World) (x : Value) (h : EnvAt W x ⟨[(a, v)], [], []⟩) => set_any a w x W h ⟨by simp, by simp, by simp⟩ (ord_one a v))
  simp only [set_same] at H2
  have hz : (a.toList == a.toList) = true := by simp
  go_enter Try.func5, Try.ntmps5
  go_upto_region 3 with (first
    | (go_at_call 9; (refine H1.out.mono ?_); rintro e w1 ⟨v1, rfl, he1, hb1⟩; have E1 := Lib.hid he1; have B1 := Lib.hid hb1; clear he1 hb1 H1)
    | (go_at_call 9; (refine (H2.out w1 v1 E1.out).mono ?_); rintro e w2 ⟨v2, rfl, he2, hb2⟩; obtain ⟨p1, c1, p2, c2, p3, c3, rfl, r1, r2, r3⟩ := he2.shape; have R1 := Lib.hid r1; have B2 := Lib.hid (en_trans B1.out hb2); clear he2 hb2 r1 r2 r3))
  obtain ⟨b, o, rfl, hcc⟩ := R1.out.get (k := 0) rfl
  have d0 := hcc 0 _ rfl 1 _ rfl
  simp only [Nat.zero_mul, Nat.add_zero] at d0
  obtain ⟨W3, hW3⟩ : ∃ W, w2.alloc (.cells #[.slice (some ⟨b, o, none⟩) 1 c1, .slice p2 0 c2, .slice p3 0 c3] 26) = W := ⟨_, rfl⟩
  have hb3 : Below w2.heap.size w2 W3 := by rw [← hW3]; exact en_alloc (Below.refl _ w2) _
  have hX : W3.heap[w2.heap.size]? = some (.cells #[.slice (some ⟨b, o, none⟩) 1 c1, .slice p2 0 c2, .slice p3 0 c3] 26 (0, 0)) := by rw [← hW3]; exact heap_alloc_new w2 _
  have k0 := cell_of_row W3 _ 0 _ _ _ hX
  have d1 := (World.cell?_of_block (hb3.block b (World.block_lt_of_cell? w2 _ d0))).trans d0
  have HB3 := Lib.hid (en_trans B2.out hb3)
  have HKN := Lib.hid (known_any W3)
  have hz2 : (w.toList == w.toList) = true := by simp
  clear hcc d0 hb3 hX
  rw [hW3]
  clear hW3
  go_wp2_with (go_at_call 8; (refine HKN.out.mono ?_); rintro e w4 ⟨rfl, hb4⟩; have HB4 := Lib.hid (en_trans HB3.out hb4); clear hb4)
  go_ret
  exact ⟨rfl, HB4.out⟩

theorem EnvAt.shaped {w : World} {v : Value} {E : Ev} (h : EnvAt w v E) {n1 n2 n3 : Nat} (h1 : E.vars.length = n1) (h2 : E.args.length = n2) (h3 : E.funs.length = n3) :
    ∃ p1 c1 p2 c2 p3 c3, v = .agg #[.slice p1 n1 c1, .slice p2 n2 c2, .slice p3 n3 c3] := by
  obtain ⟨p1, c1, p2, c2, p3, c3, rfl, -⟩ := h.shape
  rw [h1, h2, h3]
  exact ⟨_, _, _, _, _, _, rfl⟩
theorem field_env (h1 h2 h3 : Option Addr) (n1 n2 n3 m1 m2 m3 : Nat) (w : World) : (Instr.field 26 (.agg #[.slice h1 n1 m1, .slice h2 n2 m2, .slice h3 n3 m3]) 0).run Try.prog w = .ok (.slice h1 n1 m1) w := by kernel_rfl
/-- Two blocks that have just been made. -/
theorem two_new (w : World) (o1 o2 : Obj) : ((w.alloc o1).alloc o2).heap[w.heap.size]? = some o1 ∧ ((w.alloc o1).alloc o2).heap[w.heap.size + 1]? = some o2 := by
  refine ⟨by rw [Below.heap_alloc _ _ _ (by simp)]; exact heap_alloc_new w _, ?_⟩
  have := heap_alloc_new (w.alloc o1) o2
  simpa using this

set_option maxHeartbeats 4000000 in
theorem order_diff (a b v w : ByteArray) (h : eqN a b = false) (W0 : World) :
    Calls Try.prog 5 #[.string a, .string b, .string v, .string w] W0 fun e w' => e = .returned (.bool true) ∧ Below W0.heap.size W0 w' := by
  obtain ⟨L, hL1, hL2, hLl, hLo, hLd⟩ := set_two v w h
  obtain ⟨F, hF1, hF2, hFl, hFo, -⟩ := set_two (β := Int) 1 2 h
  have HS1 := Lib.hid (fun W => set_nil a v W)
  have HS2 := Lib.hid (fun (W : World) (x : Value) (h : EnvAt W x ⟨[(a, v)], [], []⟩) => set_any b w x W h ⟨by simp, by simp, by simp⟩ (ord_one a v))
  have HS3 := Lib.hid (fun W => set_nil b w W)
  have HS4 := Lib.hid (fun (W : World) (x : Value) (h : EnvAt W x ⟨[(b, w)], [], []⟩) => set_any a v x W h ⟨by simp, by simp, by simp⟩ (ord_one b w))
  have HD1 := Lib.hid (fun W => define_nil a 1 W)
  have HD2 := Lib.hid (fun (W : World) (x : Value) (h : EnvAt W x ⟨[], [], [(a, 1)]⟩) => define_any b 2 x W h ⟨by simp, by simp, by simp⟩ (ord_one a 1))
  have HD3 := Lib.hid (fun W => define_nil b 2 W)
  have HD4 := Lib.hid (fun (W : World) (x : Value) (h : EnvAt W x ⟨[], [], [(b, 2)]⟩) => define_any a 1 x W h ⟨by simp, by simp, by simp⟩ (ord_one b 2))
  dsimp only at HS2 HS4 HD2 HD4
  simp only [hL1] at HS2
  simp only [hL2] at HS4
  simp only [hF1] at HD2
  simp only [hF2] at HD4
  have HQ1 := Lib.hid (fun (W : World) (x y : Value) (h1 : EnvAt W x ⟨L, [], []⟩) (h2 : EnvAt W y ⟨L, [], []⟩) => rsame_any x y W h1 h2 ⟨by simp [hLl], by simp, by simp⟩)
  have HQ2 := Lib.hid (fun (W : World) (x y : Value) (h1 : EnvAt W x ⟨[], [], F⟩) (h2 : EnvAt W y ⟨[], [], F⟩) => rsame_any x y W h1 h2 ⟨by simp, by simp [hFl], by simp⟩)
  have HU := Lib.hid (fun (W : World) (x : Value) (h : EnvAt W x ⟨L, [], []⟩) => unset_any a x W h ⟨by simp [hLl], by simp, by simp⟩ hLo)
  dsimp only at HU
  simp only [hLd] at HU
  simp only [decide_true] at HQ1 HQ2
  have HL := Lib.hid (And.intro hLl hFl)
  have hz : (a.toList == b.toList) = false := h
  clear hL1 hL2 hLl hLo hLd hF1 hF2 hFl hFo h
  go_enter Try.func5, Try.ntmps5
  go_upto_region 5 with (first
    | (go_at_call 9; (refine (HS1.out W0).mono ?_); rintro e w1 ⟨v1, rfl, he1, hb1⟩; have E1 := Lib.hid he1; have B1 := Lib.hid hb1; clear he1 hb1 HS1)
    | (go_at_call 9; (refine (HS2.out w1 v1 E1.out).mono ?_); rintro e w2 ⟨v2, rfl, he2, hb2⟩; obtain ⟨p1, c1, p2, c2, p3, c3, rfl⟩ := he2.shaped HL.out.1 rfl rfl; have E2 := Lib.hid he2; have B2 := Lib.hid (en_trans B1.out hb2); clear he2 hb2 HS2)
    | (go_at_call 9; (refine (HS3.out w2).mono ?_); rintro e w3 ⟨v3, rfl, he3, hb3⟩; have E3 := Lib.hid he3; have E23 := Lib.hid (E2.out.below hb3 (Nat.le_refl _)); have B3 := Lib.hid (en_trans B2.out hb3); clear he3 hb3 HS3)
    | (go_at_call 9; (refine (HS4.out w3 v3 E3.out).mono ?_); rintro e w4 ⟨v4, rfl, he4, hb4⟩; obtain ⟨q1, d1, q2, d2, q3, d3, rfl⟩ := he4.shaped HL.out.1 rfl rfl; have E4 := Lib.hid he4; have E24 := Lib.hid (E23.out.below hb4 (Nat.le_refl _)); have B4 := Lib.hid (en_trans B3.out hb4); clear he4 hb4 HS4))
  obtain ⟨W5, hW5⟩ : ∃ W, (w4.alloc (.cells #[.slice p1 2 c1, .slice p2 0 c2, .slice p3 0 c3] 26)).alloc (.cells #[.slice q1 2 d1, .slice q2 0 d2, .slice q3 0 d3] 26) = W := ⟨_, rfl⟩
  obtain ⟨hx, hy⟩ := two_new w4 (.cells #[.slice p1 2 c1, .slice p2 0 c2, .slice p3 0 c3] 26) (.cells #[.slice q1 2 d1, .slice q2 0 d2, .slice q3 0 d3] 26)
  have hb5 : Below w4.heap.size w4 W5 := by rw [← hW5]; exact en_alloc (en_alloc (Below.refl _ w4) _) _
  rw [hW5] at hx hy
  rw [hW5]
  have B5 := Lib.hid (en_trans B4.out hb5)
  have X5 := Lib.hid (E24.out.below hb5 (Nat.le_refl _))
  have Y5 := Lib.hid (E4.out.below hb5 (Nat.le_refl _))
  have Hxy := Lib.hid (And.intro hx hy)
  clear hW5 hx hy hb5 E24 E4 E23 E2 E1 E3 B4 B3 B2 B1
  go_upto_region 6 with (first
    | (go_at_call 13; (refine (HD1.out W5).mono ?_); rintro e w6 ⟨v6, rfl, he, hb⟩; have E6 := Lib.hid he; have B6 := Lib.hid hb; clear he hb HD1)
    | (go_at_call 13; (refine (HD2.out w6 v6 E6.out).mono ?_); rintro e w7 ⟨v7, rfl, he, hb⟩; obtain ⟨f1, i1, f2, i2, f3, i3, rfl⟩ := he.shaped rfl rfl HL.out.2; have E7 := Lib.hid he; have B7 := Lib.hid (en_trans B6.out hb); clear he hb HD2)
    | (go_at_call 13; (refine (HD3.out w7).mono ?_); rintro e w8 ⟨v8, rfl, he, hb⟩; have E8 := Lib.hid he; have E78 := Lib.hid (E7.out.below hb (Nat.le_refl _)); have B8 := Lib.hid (en_trans B7.out hb); clear he hb HD3)
    | (go_at_call 13; (refine (HD4.out w8 v8 E8.out).mono ?_); rintro e w9 ⟨v9, rfl, he, hb⟩; obtain ⟨g1, j1, g2, j2, g3, j3, rfl⟩ := he.shaped rfl rfl HL.out.2; have E9 := Lib.hid he; have E79 := Lib.hid (E78.out.below hb (Nat.le_refl _)); have B9 := Lib.hid (en_trans B8.out hb); clear he hb HD4))
  obtain ⟨W10, hW10⟩ : ∃ W, (w9.alloc (.cells #[.slice f1 0 i1, .slice f2 0 i2, .slice f3 2 i3] 26)).alloc (.cells #[.slice g1 0 j1, .slice g2 0 j2, .slice g3 2 j3] 26) = W := ⟨_, rfl⟩
  obtain ⟨hf, hg⟩ := two_new w9 (.cells #[.slice f1 0 i1, .slice f2 0 i2, .slice f3 2 i3] 26) (.cells #[.slice g1 0 j1, .slice g2 0 j2, .slice g3 2 j3] 26)
  have hb10 : Below w9.heap.size w9 W10 := by rw [← hW10]; exact en_alloc (en_alloc (Below.refl _ w9) _) _
  rw [hW10] at hf hg
  rw [hW10]
  have hb510 := en_trans B9.out hb10
  have B10 := Lib.hid (en_trans B5.out hb510)
  have X10 := Lib.hid (X5.out.below hb510 (Nat.le_refl _))
  have Y10 := Lib.hid (Y5.out.below hb510 (Nat.le_refl _))
  have F10 := Lib.hid (E79.out.below hb10 (Nat.le_refl _))
  have G10 := Lib.hid (E9.out.below hb10 (Nat.le_refl _))
  have hx := (hb510.block _ (Array.getElem?_eq_some_iff.1 Hxy.out.1).1).trans Hxy.out.1
  have hy := (hb510.block _ (Array.getElem?_eq_some_iff.1 Hxy.out.2).1).trans Hxy.out.2
  have HK := Lib.hid (fun (W : World) (hW : Below W10.heap.size W10 W) => (show ((W.cell? ⟨w4.heap.size, 0, none⟩ = some (.slice p1 2 c1) ∧ W.cell? ⟨w4.heap.size, 1, none⟩ = some (.slice p2 0 c2) ∧ W.cell? ⟨w4.heap.size, 2, none⟩ = some (.slice p3 0 c3)) ∧ (W.cell? ⟨w4.heap.size + 1, 0, none⟩ = some (.slice q1 2 d1) ∧ W.cell? ⟨w4.heap.size + 1, 1, none⟩ = some (.slice q2 0 d2) ∧ W.cell? ⟨w4.heap.size + 1, 2, none⟩ = some (.slice q3 0 d3))) ∧
      ((W.cell? ⟨w9.heap.size, 0, none⟩ = some (.slice f1 0 i1) ∧ W.cell? ⟨w9.heap.size, 1, none⟩ = some (.slice f2 0 i2) ∧ W.cell? ⟨w9.heap.size, 2, none⟩ = some (.slice f3 2 i3)) ∧ (W.cell? ⟨w9.heap.size + 1, 0, none⟩ = some (.slice g1 0 j1) ∧ W.cell? ⟨w9.heap.size + 1, 1, none⟩ = some (.slice g2 0 j2) ∧ W.cell? ⟨w9.heap.size + 1, 2, none⟩ = some (.slice g3 2 j3))) by
    have k1 := (hW.block _ (Array.getElem?_eq_some_iff.1 hx).1).trans hx
    have k2 := (hW.block _ (Array.getElem?_eq_some_iff.1 hy).1).trans hy
    have k3 := (hW.block _ (Array.getElem?_eq_some_iff.1 hf).1).trans hf
    have k4 := (hW.block _ (Array.getElem?_eq_some_iff.1 hg).1).trans hg
    exact ⟨⟨⟨cell_of_row _ _ 0 _ _ _ k1, cell_of_row _ _ 1 _ _ _ k1, cell_of_row _ _ 2 _ _ _ k1⟩, cell_of_row _ _ 0 _ _ _ k2, cell_of_row _ _ 1 _ _ _ k2, cell_of_row _ _ 2 _ _ _ k2⟩, ⟨cell_of_row _ _ 0 _ _ _ k3, cell_of_row _ _ 1 _ _ _ k3, cell_of_row _ _ 2 _ _ _ k3⟩, cell_of_row _ _ 0 _ _ _ k4, cell_of_row _ _ 1 _ _ _ k4, cell_of_row _ _ 2 _ _ _ k4⟩))
  obtain ⟨⟨⟨k0, k1, k2⟩, k3, k4, k5⟩, -⟩ := HK.out W10 (Below.refl _ _)
  clear hW10 hf hg hx hy hb10 hb510 E6 E7 E8 E78 E79 E9 B6 B7 B8 B9 X5 Y5 Hxy B5
  have hfe := field_env
  go_wp2_with (first
    | (go_at_call 21; (refine (HQ1.out W10 _ _ X10.out Y10.out).mono ?_); rintro e w11 ⟨rfl, hb⟩; obtain ⟨-, ⟨k0, k1, k2⟩, k3, k4, k5⟩ := HK.out w11 hb; have F11 := Lib.hid (F10.out.below hb (Nat.le_refl _)); have G11 := Lib.hid (G10.out.below hb (Nat.le_refl _)); have C11 := Lib.hid hb; clear hb HQ1)
    | (go_at_call 21; (refine (HQ2.out w11 _ _ F11.out G11.out).mono ?_); rintro e w12 ⟨rfl, hb⟩; obtain ⟨⟨⟨k0, k1, k2⟩, -⟩, -⟩ := HK.out w12 (en_trans C11.out hb); have C12 := Lib.hid (en_trans C11.out hb); have X12 := Lib.hid (X10.out.below C12.out (Nat.le_refl _)); clear hb HQ2)
    | (go_at_call 11; (refine (HU.out w12 _ X12.out).mono ?_); rintro e w13 ⟨v13, rfl, he, hb⟩; obtain ⟨h1, m1, h2, m2, h3, m3, rfl⟩ := he.shaped rfl rfl rfl; have C13 := Lib.hid (en_trans C12.out hb); clear he hb HU)
    | (go_at_call 8; (refine (known_any w13).mono ?_); rintro e w14 ⟨rfl, hb⟩; have C14 := Lib.hid (en_trans C13.out hb); clear hb))
  go_ret
  exact ⟨rfl, en_trans B10.out C14.out⟩
theorem order_law (a b v w : ByteArray) (W0 : World) :
    Calls Try.prog 5 #[.string a, .string b, .string v, .string w] W0 fun e w' => e = .returned (.bool true) ∧ Below W0.heap.size W0 w' := by
  cases h : eqN a b
  · exact order_diff a b v w h W0
  · have := eqN_iff.1 h
    subst this
    exact order_same a v w W0
end Go.Proofs.Ytbbopbbnhkcfdaa
