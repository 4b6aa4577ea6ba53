/-
  Proved: a contract of tree's command. Conditions: texts of at most 2^20 bytes.
-/
import Derived.Test.YtloaalapkmbgeaaDoorTreeShape0
namespace Go.Proofs.YtloaalapkmbgeaaDoor
open Go Go.RowKit GlyphMath LexMath TreeMath

theorem node_cells (w : World) (o x : ByteArray) (kv wv pv av rv : Value) (t : TypeId) : ∀ W, Below (w.alloc (.cells #[.string o, .string x, kv, wv, pv, av, rv] t)).heap.size (w.alloc (.cells #[.string o, .string x, kv, wv, pv, av, rv] t)) W →
    W.cell? ⟨w.heap.size, 1, none⟩ = some (.string x) ∧ W.cell? ⟨w.heap.size, 3, none⟩ = some wv ∧ W.cell? ⟨w.heap.size, 4, none⟩ = some pv ∧ W.cell? ⟨w.heap.size, 5, none⟩ = some av ∧ W.cell? ⟨w.heap.size, 6, none⟩ = some rv := by
  intro W hb
  have h := heap_alloc_new w (.cells #[.string o, .string x, kv, wv, pv, av, rv] t)
  exact ⟨cell_below (cell_plain h 1) hb, cell_below (cell_plain h 3) hb, cell_below (cell_plain h 4) hb, cell_below (cell_plain h 5) hb, cell_below (cell_plain h 6) hb⟩
theorem pos_len {α : Type} (l : List α) : decide ((0 : Int) < (l.length : Int)) = !l.isEmpty := by
  cases l with
  | nil => rfl
  | cons a r => exact decide_eq_true (by rw [List.length_cons]; omega)

set_option maxHeartbeats 2000000 in
set_option maxRecDepth 100000 in
theorem command_any (n : Nd) (kp wp pp ap rp : Option Addr) (kc wc pc ac rc : Nat) (w : World) (hw : WsAt w (.slice wp n.words.length wc) n.words) (hs : ∀ y ∈ n.words, Small y) :
    Calls Tryd.prog 46 #[NV n kp wp pp ap rp kc wc pc ac rc] w fun e w' => e = .returned (.bool (commandT n)) ∧ Below w.heap.size w w' := by
  obtain ⟨op, name, kids, words, pats, assigns, redirs⟩ := n
  have HBX := Lib.hid (fun o => below_one w o)
  obtain ⟨R, hR⟩ : ∃ R, commandT ⟨op, name, kids, words, pats, assigns, redirs⟩ = R := ⟨_, rfl⟩
  rw [hR]
  have hA := pos_len assigns
  have hD := pos_len redirs
  simp only at hw hs
  obtain ⟨o, ho⟩ : ∃ o, T op = o := ⟨_, rfl⟩
  obtain ⟨x, hx⟩ : ∃ o, T name = o := ⟨_, rfl⟩
  cases words with
  | nil =>
    have HR := Lib.hid (show (!assigns.isEmpty || !redirs.isEmpty) = R from hR)
    show Calls _ _ #[.agg #[.string (T op), .string (T name), .slice kp kids.length kc, .slice wp 0 wc, .slice pp pats.length pc, .slice ap assigns.length ac, .slice rp redirs.length rc]] _ _
    rw [ho, hx]
    generalize assigns.isEmpty = EA at HR hA
    generalize redirs.isEmpty = ER at HR hD
    generalize assigns.length = AL at hA ⊢
    generalize redirs.length = RL at hD ⊢
    clear hR hw hs ho hx
    have ha : (0 : Int) < (AL : Int) ∧ EA = false ∨ ¬ (0 : Int) < (AL : Int) ∧ EA = true := by
      cases EA with
      | false => exact .inl ⟨of_decide_eq_true hA, rfl⟩
      | true => exact .inr ⟨of_decide_eq_false hA, rfl⟩
    have hd : (0 : Int) < (RL : Int) ∧ ER = false ∨ ¬ (0 : Int) < (RL : Int) ∧ ER = true := by
      cases ER with
      | false => exact .inl ⟨of_decide_eq_true hD, rfl⟩
      | true => exact .inr ⟨of_decide_eq_false hD, rfl⟩
    clear hA hD
    rcases ha with ⟨ha, rfl⟩ | ⟨ha, rfl⟩ <;> rcases hd with ⟨hd, rfl⟩ | ⟨hd, rfl⟩
    all_goals
      go_enter Tryd.func46, Tryd.ntmps46
      go_wp2_with fail
      go_ret
      first
        | exact ⟨ret_bool HR.out, HBX.out _⟩
        | exact ⟨ret_bool (by rw [← HR.out]; simp; omega), HBX.out _⟩
  | cons w0 r =>
    have HR := Lib.hid (show (!givesT w0 && (!assigns.isEmpty || (match plainT w0 with | none => true | some t => !reservedT t))) = R from hR)
    obtain ⟨b, oo, hp⟩ := SlAt.ptr hw (k := 0) (x := w0) rfl
    subst hp
    obtain ⟨cs, ⟨u, rfl, hu⟩, hc⟩ := SlAt.cell hw rfl (k := 0) (x := w0) rfl
    have c0 : w.cell? ⟨b, oo, none⟩ = some u := by simpa using hc 0 _ rfl
    obtain ⟨up, uc, rfl, -, -⟩ := hu.is
    have HSM := Lib.hid (hs w0 (by simp))
    have HU := Lib.hid hu
    have HPL := Lib.hid (fun W (hb : Below w.heap.size w W) => plain_any w0 _ W (HU.out.stays hb))
    have HGV := Lib.hid (fun W (hb : Below w.heap.size w W) => gives_any w0 _ W (HU.out.stays hb) HSM.out)
    have HRS := Lib.hid (fun W => reserved_any ((plainT w0).getD []) W)
    obtain ⟨WL, hWL⟩ : ∃ L, r.length + 1 = L := ⟨_, rfl⟩
    have hW0 : ((WL : Int) == 0) = false := int_ne (by omega)
    have hW1 : (0 : Int) < (WL : Int) := by omega
    show Calls _ _ #[.agg #[.string (T op), .string (T name), .slice kp kids.length kc, .slice (some ⟨b, oo, none⟩) (r.length + 1) wc, .slice pp pats.length pc, .slice ap assigns.length ac, .slice rp redirs.length rc]] _ _
    rw [ho, hx, hWL]
    unfold wordV at HPL HGV
    generalize w0.length = ul at c0 HPL HGV
    obtain ⟨G, hG⟩ : ∃ G, givesT w0 = G := ⟨_, rfl⟩
    rw [hG] at HR HGV
    obtain ⟨q, hq⟩ : ∃ q, plainT w0 = q := ⟨_, rfl⟩
    rw [hq] at HR HPL HRS
    generalize assigns.isEmpty = EA at HR hA
    generalize assigns.length = AL at hA ⊢
    generalize redirs.length = RL at ⊢
    generalize kids.length = KL at ⊢
    generalize pats.length = PL at ⊢
    have ha : (0 : Int) < (AL : Int) ∧ EA = false ∨ ¬ (0 : Int) < (AL : Int) ∧ EA = true := by
      cases EA with
      | false => exact .inl ⟨of_decide_eq_true hA, rfl⟩
      | true => exact .inr ⟨of_decide_eq_false hA, rfl⟩
    obtain ⟨s, hs2⟩ : ∃ s, T (q.getD []) = s := ⟨_, rfl⟩
    rw [hs2] at HRS HPL
    obtain ⟨RS, hRS⟩ : ∃ RS, reservedT (q.getD []) = RS := ⟨_, rfl⟩
    rw [hRS] at HRS
    obtain ⟨Q, hQ⟩ : ∃ Q, q.isSome = Q := ⟨_, rfl⟩
    rw [hQ] at HPL
    have HR := Lib.hid (show (!G && (!EA || (!Q || !RS))) = R from by
      rw [← HR.out, ← hQ, ← hRS]
      cases q <;> rfl)
    have HNC := Lib.hid (node_cells w o x (.slice kp KL kc) (.slice (some ⟨b, oo, none⟩) WL wc) (.slice pp PL pc) (.slice ap AL ac) (.slice rp RL rc) 49)
    have HC0 := Lib.hid c0
    have hc0 := fun y => cell_below HC0.out (HBX.out y)
    clear hR hw hs hu hc hG hq hA hs2 hRS hQ hWL HU ho hx c0
    have HB := Lib.hid (Below.refl (w.alloc (.cells #[.string o, .string x, .slice kp KL kc, .slice (some ⟨b, oo, none⟩) WL wc, .slice pp PL pc, .slice ap AL ac, .slice rp RL rc] 49)).heap.size (w.alloc (.cells #[.string o, .string x, .slice kp KL kc, .slice (some ⟨b, oo, none⟩) WL wc, .slice pp PL pc, .slice ap AL ac, .slice rp RL rc] 49)))
    have HBW := Lib.hid (show ∀ W, Below (w.alloc (.cells #[.string o, .string x, .slice kp KL kc, .slice (some ⟨b, oo, none⟩) WL wc, .slice pp PL pc, .slice ap AL ac, .slice rp RL rc] 49)).heap.size (w.alloc (.cells #[.string o, .string x, .slice kp KL kc, .slice (some ⟨b, oo, none⟩) WL wc, .slice pp PL pc, .slice ap AL ac, .slice rp RL rc] 49)) W → Below w.heap.size w W from fun W hb => (HBX.out _).trans (hb.mono (HBX.out _).size))
    cases G
    · rcases ha with ⟨ha, rfl⟩ | ⟨ha, rfl⟩
      · go_enter Tryd.func46, Tryd.ntmps46
        go_wp2_with (first
          | (go_at_call 18; refine (HPL.out _ (HBW.out _ HB.out)).mono ?_; rintro e w1 ⟨rfl, hb⟩; have hb := HB.out.trans (hb.mono HB.out.size); obtain ⟨c1, c3, c4, c5, c6⟩ := HNC.out _ hb; have cw := cell_below HC0.out (HBW.out _ hb); have HB := Lib.hid hb; clear hb)
          | (go_at_call 73; refine (HGV.out _ (HBW.out _ HB.out)).mono ?_; rintro e w2 ⟨rfl, hb⟩; have hb := HB.out.trans (hb.mono HB.out.size); obtain ⟨c1, c3, c4, c5, c6⟩ := HNC.out _ hb; have HB := Lib.hid hb; clear hb)
          | (go_at_call 11; refine (HRS.out _).mono ?_; rintro e w3 ⟨rfl, rfl⟩))
        go_ret
        exact ⟨ret_bool HR.out, HBW.out _ HB.out⟩
      · cases Q
        · go_enter Tryd.func46, Tryd.ntmps46
          go_wp2_with (first
            | (go_at_call 18; refine (HPL.out _ (HBW.out _ HB.out)).mono ?_; rintro e w1 ⟨rfl, hb⟩; have hb := HB.out.trans (hb.mono HB.out.size); obtain ⟨c1, c3, c4, c5, c6⟩ := HNC.out _ hb; have cw := cell_below HC0.out (HBW.out _ hb); have HB := Lib.hid hb; clear hb)
            | (go_at_call 73; refine (HGV.out _ (HBW.out _ HB.out)).mono ?_; rintro e w2 ⟨rfl, hb⟩; have hb := HB.out.trans (hb.mono HB.out.size); obtain ⟨c1, c3, c4, c5, c6⟩ := HNC.out _ hb; have HB := Lib.hid hb; clear hb)
            | (go_at_call 11; refine (HRS.out _).mono ?_; rintro e w3 ⟨rfl, rfl⟩))
          go_ret
          exact ⟨ret_bool HR.out, HBW.out _ HB.out⟩
        · cases RS
          · go_enter Tryd.func46, Tryd.ntmps46
            go_wp2_with (first
              | (go_at_call 18; refine (HPL.out _ (HBW.out _ HB.out)).mono ?_; rintro e w1 ⟨rfl, hb⟩; have hb := HB.out.trans (hb.mono HB.out.size); obtain ⟨c1, c3, c4, c5, c6⟩ := HNC.out _ hb; have cw := cell_below HC0.out (HBW.out _ hb); have HB := Lib.hid hb; clear hb)
              | (go_at_call 73; refine (HGV.out _ (HBW.out _ HB.out)).mono ?_; rintro e w2 ⟨rfl, hb⟩; have hb := HB.out.trans (hb.mono HB.out.size); obtain ⟨c1, c3, c4, c5, c6⟩ := HNC.out _ hb; have HB := Lib.hid hb; clear hb)
              | (go_at_call 11; refine (HRS.out _).mono ?_; rintro e w3 ⟨rfl, rfl⟩))
            go_ret
            exact ⟨ret_bool HR.out, HBW.out _ HB.out⟩
          · go_enter Tryd.func46, Tryd.ntmps46
            go_wp2_with (first
              | (go_at_call 18; refine (HPL.out _ (HBW.out _ HB.out)).mono ?_; rintro e w1 ⟨rfl, hb⟩; have hb := HB.out.trans (hb.mono HB.out.size); obtain ⟨c1, c3, c4, c5, c6⟩ := HNC.out _ hb; have cw := cell_below HC0.out (HBW.out _ hb); have HB := Lib.hid hb; clear hb)
              | (go_at_call 73; refine (HGV.out _ (HBW.out _ HB.out)).mono ?_; rintro e w2 ⟨rfl, hb⟩; have hb := HB.out.trans (hb.mono HB.out.size); obtain ⟨c1, c3, c4, c5, c6⟩ := HNC.out _ hb; have HB := Lib.hid hb; clear hb)
              | (go_at_call 11; refine (HRS.out _).mono ?_; rintro e w3 ⟨rfl, rfl⟩))
            go_ret
            exact ⟨ret_bool HR.out, HBW.out _ HB.out⟩
    · clear ha
      go_enter Tryd.func46, Tryd.ntmps46
      go_wp2_with (first
        | (go_at_call 18; refine (HPL.out _ (HBW.out _ HB.out)).mono ?_; rintro e w1 ⟨rfl, hb⟩; have hb := HB.out.trans (hb.mono HB.out.size); obtain ⟨c1, c3, c4, c5, c6⟩ := HNC.out _ hb; have cw := cell_below HC0.out (HBW.out _ hb); have HB := Lib.hid hb; clear hb)
        | (go_at_call 73; refine (HGV.out _ (HBW.out _ HB.out)).mono ?_; rintro e w2 ⟨rfl, hb⟩; have hb := HB.out.trans (hb.mono HB.out.size); obtain ⟨c1, c3, c4, c5, c6⟩ := HNC.out _ hb; have HB := Lib.hid hb; clear hb)
        | (go_at_call 11; refine (HRS.out _).mono ?_; rintro e w3 ⟨rfl, rfl⟩))
      go_ret
      exact ⟨ret_bool HR.out, HBW.out _ HB.out⟩
end Go.Proofs.YtloaalapkmbgeaaDoor
