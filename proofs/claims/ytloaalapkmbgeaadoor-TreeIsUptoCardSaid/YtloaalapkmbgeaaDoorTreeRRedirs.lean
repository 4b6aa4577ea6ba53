/-
  Proved: contracts of the statements' own redirs, of a node. Conditions: texts of at most 2^20 bytes; the library's tables lie as they should.
-/
import Derived.Test.YtloaalapkmbgeaaDoorTreeROpens
import Derived.Test.YtloaalapkmbgeaaDoorTreeSpells
namespace Go.Proofs.YtloaalapkmbgeaaDoor
open Go Go.RowKit GlyphMath LexMath TreeMath

theorem node_all (w : World) (o x : ByteArray) (kv wv pv av rv : Value) (t : TypeId) : ∀ W, Below (w.alloc (.cells #[.string o, .string x, kv, wv, pv, av, rv] t)).heap.size (w.alloc (.cells #[.string o, .string x, kv, wv, pv, av, rv] t)) W →
    W.cell? ⟨w.heap.size, 0, none⟩ = some (.string o) ∧ W.cell? ⟨w.heap.size, 1, none⟩ = some (.string x) ∧ W.cell? ⟨w.heap.size, 2, none⟩ = some kv ∧ W.cell? ⟨w.heap.size, 3, none⟩ = some wv ∧ W.cell? ⟨w.heap.size, 4, none⟩ = some pv ∧ W.cell? ⟨w.heap.size, 5, none⟩ = some av ∧ W.cell? ⟨w.heap.size, 6, none⟩ = some rv := by
  intro W hb
  have h := heap_alloc_new w (.cells #[.string o, .string x, kv, wv, pv, av, rv] t)
  exact ⟨cell_below (cell_plain h 0) hb, cell_below (cell_plain h 1) hb, cell_below (cell_plain h 2) hb, cell_below (cell_plain h 3) hb, cell_below (cell_plain h 4) hb, cell_below (cell_plain h 5) hb, cell_below (cell_plain h 6) hb⟩
/-- Ops whose nodes may have redirs. -/
def redirOps : List (List UInt8) := [[99, 109, 100], [105, 102], [119, 104, 105, 108, 101], [117, 110, 116, 105, 108], [102, 111, 114], [99, 97, 115, 101], [103, 114, 111, 117, 112], [115, 117, 98]]
def rredirsT (n : Nd) : Bool := if redirOps.contains n.op = true then n.redirs.all redirT else n.redirs.isEmpty
def rpatsT (n : Nd) : Bool := n.pats.all patT && (n.pats.length == n.kids.length)
def rcmdT (n : Nd) : Bool := n.assigns.all assignT && (commandT n && n.words.all bareW)

theorem redir_ways {o : ByteArray} (h : redirOps.contains o.toList = true) : ((o.toList == [99, 109, 100]) = true) ∨ ((o.toList == [99, 109, 100]) = false ∧ (o.toList == [105, 102]) = true) ∨ ((o.toList == [99, 109, 100]) = false ∧ (o.toList == [105, 102]) = false ∧ (o.toList == [119, 104, 105, 108, 101]) = true) ∨ ((o.toList == [99, 109, 100]) = false ∧ (o.toList == [105, 102]) = false ∧ (o.toList == [119, 104, 105, 108, 101]) = false ∧ (o.toList == [117, 110, 116, 105, 108]) = true) ∨ ((o.toList == [99, 109, 100]) = false ∧ (o.toList == [105, 102]) = false ∧ (o.toList == [119, 104, 105, 108, 101]) = false ∧ (o.toList == [117, 110, 116, 105, 108]) = false ∧ (o.toList == [102, 111, 114]) = true) ∨ ((o.toList == [99, 109, 100]) = false ∧ (o.toList == [105, 102]) = false ∧ (o.toList == [119, 104, 105, 108, 101]) = false ∧ (o.toList == [117, 110, 116, 105, 108]) = false ∧ (o.toList == [102, 111, 114]) = false ∧ (o.toList == [99, 97, 115, 101]) = true) ∨ ((o.toList == [99, 109, 100]) = false ∧ (o.toList == [105, 102]) = false ∧ (o.toList == [119, 104, 105, 108, 101]) = false ∧ (o.toList == [117, 110, 116, 105, 108]) = false ∧ (o.toList == [102, 111, 114]) = false ∧ (o.toList == [99, 97, 115, 101]) = false ∧ (o.toList == [103, 114, 111, 117, 112]) = true) ∨ ((o.toList == [99, 109, 100]) = false ∧ (o.toList == [105, 102]) = false ∧ (o.toList == [119, 104, 105, 108, 101]) = false ∧ (o.toList == [117, 110, 116, 105, 108]) = false ∧ (o.toList == [102, 111, 114]) = false ∧ (o.toList == [99, 97, 115, 101]) = false ∧ (o.toList == [103, 114, 111, 117, 112]) = false ∧ (o.toList == [115, 117, 98]) = true) := by
  generalize o.toList = l at h ⊢
  have : l = [99, 109, 100] ∨ l = [105, 102] ∨ l = [119, 104, 105, 108, 101] ∨ l = [117, 110, 116, 105, 108] ∨ l = [102, 111, 114] ∨ l = [99, 97, 115, 101] ∨ l = [103, 114, 111, 117, 112] ∨ l = [115, 117, 98] := by simpa [redirOps] using h
  rcases this with rfl | rfl | rfl | rfl | rfl | rfl | rfl | rfl
  · exact (Or.inl (by decide))
  · exact (Or.inr (Or.inl (by decide)))
  · exact (Or.inr (Or.inr (Or.inl (by decide))))
  · exact (Or.inr (Or.inr (Or.inr (Or.inl (by decide)))))
  · exact (Or.inr (Or.inr (Or.inr (Or.inr (Or.inl (by decide))))))
  · exact (Or.inr (Or.inr (Or.inr (Or.inr (Or.inr (Or.inl (by decide)))))))
  · exact (Or.inr (Or.inr (Or.inr (Or.inr (Or.inr (Or.inr (Or.inl (by decide))))))))
  · exact (Or.inr (Or.inr (Or.inr (Or.inr (Or.inr (Or.inr (Or.inr (by decide))))))))
theorem redir_none {o : ByteArray} (h : redirOps.contains o.toList = false) : (o.toList == [99, 109, 100]) = false ∧ (o.toList == [105, 102]) = false ∧ (o.toList == [119, 104, 105, 108, 101]) = false ∧ (o.toList == [117, 110, 116, 105, 108]) = false ∧ (o.toList == [102, 111, 114]) = false ∧ (o.toList == [99, 97, 115, 101]) = false ∧ (o.toList == [103, 114, 111, 117, 112]) = false ∧ (o.toList == [115, 117, 98]) = false := by
  generalize o.toList = l at h ⊢
  simpa [redirOps] using h

set_option maxHeartbeats 1000000 in
set_option maxRecDepth 100000 in
theorem rredirs_loop (o x : ByteArray) (kp wp pp ap rp : Option Addr) (KL WL PL AL kc wc pc ac rc : Nat) (l : List (List UInt8 × List Pt)) (w : World) (ho : redirOps.contains o.toList = true) (hv : AsAt w (.slice rp l.length rc) l) (hs : ∀ x ∈ l, Small x.2) (hT : Tabs w) :
    Calls Tryd.prog 27 #[.agg #[.string o, .string x, .slice kp KL kc, .slice wp WL wc, .slice pp PL pc, .slice ap AL ac, .slice rp l.length rc]] w fun e w' => e = .returned (.bool (l.all redirT)) ∧ Below w.heap.size w w' := by
  have HV := Lib.hid hv
  have HS := Lib.hid hs
  have HT := Lib.hid hT
  have hfew := hv.few
  obtain ⟨R, hR⟩ : ∃ R, l.all redirT = R := ⟨_, rfl⟩
  have HR := Lib.hid hR
  obtain ⟨RL, hN⟩ : ∃ N, l.length = N := ⟨_, rfl⟩
  have HN := Lib.hid hN
  have hN0 : (RL : Int) ≤ 2 ^ 63 - 1 := by unfold maxLen at hfew; omega
  rw [hR]
  rw [hN] at HV ⊢
  have HA := Lib.hid (node_all w)
  have HBX := Lib.hid (fun o => below_one w o)
  have hc := redir_ways ho
  clear hv hs hR hN hfew hT ho
  rcases hc with q0 | ⟨q0, q1⟩ | ⟨q0, q1, q2⟩ | ⟨q0, q1, q2, q3⟩ | ⟨q0, q1, q2, q3, q4⟩ | ⟨q0, q1, q2, q3, q4, q5⟩ | ⟨q0, q1, q2, q3, q4, q5, q6⟩ | ⟨q0, q1, q2, q3, q4, q5, q6, q7⟩
  all_goals
    go_enter Tryd.func27, Tryd.ntmps27
    go_wp2_with fail
    obtain ⟨w1, hw1⟩ : ∃ w1, w.alloc (.cells #[.string o, .string x, .slice kp KL kc, .slice wp WL wc, .slice pp PL pc, .slice ap AL ac, .slice rp RL rc] 49) = w1 := ⟨_, rfl⟩
    have HB1 := Lib.hid (show Below w.heap.size w w1 by rw [← hw1]; exact HBX.out _)
    have HNC := Lib.hid (show ∀ W, Below w1.heap.size w1 W → _ from by rw [← hw1]; exact HA.out o x (.slice kp KL kc) (.slice wp WL wc) (.slice pp PL pc) (.slice ap AL ac) (.slice rp RL rc) 49)
    rw [hw1]
    clear hw1
    go_loopw [3] (fun i wr => ∃ j, j ≤ RL ∧ i = .int .i64 (j : Int) ∧ Below w1.heap.size w1 wr ∧ (l.drop j).all redirT = R) (fun i _ => RL - (intOf i).toNat)
    case atStart => exact ⟨0, by omega, rfl, Below.refl _ _, HR.out⟩
    case round =>
      obtain ⟨j, hj, rfl, hb, hsd⟩ := hrel
      obtain ⟨n0, n1, n2, n3, n4, n5, n6⟩ := HNC.out wr hb
      by_cases hlt : j < RL
      · obtain ⟨y, hy⟩ : ∃ y, l[j]? = some y := ⟨_, List.getElem?_eq_getElem (by rw [HN.out]; exact hlt)⟩
        obtain ⟨bb, oo, rfl⟩ := SlAt.ptr HV.out hy
        obtain ⟨cs, ⟨u, rfl, hu⟩, hcc⟩ := SlAt.cell HV.out rfl hy
        have hj0 : (j : Int) < (RL : Int) := by omega
        have HSX := Lib.hid (HS.out y (List.mem_of_getElem? hy))
        rw [drop_get hy, List.all_cons] at hsd
        have HB := Lib.hid hb
        have HW0 := Lib.hid (HB1.out.trans (hb.mono HB1.out.size))
        have HJ := Lib.hid hlt
        have c0 : wr.cell? ⟨bb, oo + j * 2, none⟩ = some (.string (T y.1)) := by
          have := cell_below (hcc 0 _ rfl) HW0.out
          rwa [show oo + j * 2 + 0 = oo + j * 2 by omega] at this
        have c1 : wr.cell? ⟨bb, oo + j * 2 + 1, none⟩ = some u := cell_below (hcc 1 _ rfl) HW0.out
        obtain ⟨up, uc, rfl, -, -⟩ := hu.is
        have HE := Lib.hid (fun oo => ropen_any y.2 (.slice up y.2.length uc) (wr.alloc oo) (hu.stays (HW0.out.trans ((below_one wr oo).mono HW0.out.size))) HSX.out (HT.out.below (HW0.out.trans ((below_one wr oo).mono HW0.out.size))))
        unfold wordV at HE
        obtain ⟨ul, hul⟩ : ∃ ul, y.2.length = ul := ⟨_, rfl⟩
        obtain ⟨P, hP⟩ : ∃ P, bareW y.2 = P := ⟨_, rfl⟩
        have HRT := Lib.hid (show ((y.1 == [60] || (y.1 == [62] || y.1 == [62, 62])) && P && (l.drop (j + 1)).all redirT) = R from by rw [← hP]; exact hsd)
        rw [hP] at HE
        rw [hul] at HE c1
        obtain ⟨s, hs⟩ : ∃ s, T y.1 = s := ⟨_, rfl⟩
        have hsl : s.toList = y.1 := by rw [← hs, Lib.toList_data]
        rw [hs] at c0
        rw [← hsl] at HRT
        have HO := Lib.hid (below_one wr)
        clear hul hP hs hsl hsd hb hlt hj hy hcc hu
        by_cases r1 : (s.toList == [60]) = true
        · have HRT := Lib.hid (show (P && (l.drop (j + 1)).all redirT) = R from by have := HRT.out; rwa [r1, Bool.true_or, Bool.true_and] at this)
          cases P
          · have HF := Lib.hid (show false = R from HRT.out)
            go_wp2_with (go_at_call 31; refine (HE.out _).mono ?_; rintro e w2 ⟨rfl, hb2⟩; have HB2 := Lib.hid ((HO.out _).trans (hb2.mono (HO.out _).size)); clear hb2)
            go_ret
            exact ⟨ret_bool HF.out, HW0.out.trans (HB2.out.mono HW0.out.size)⟩
          · have HF := Lib.hid (show (l.drop (j + 1)).all redirT = R from HRT.out)
            go_wp2_with (go_at_call 31; refine (HE.out _).mono ?_; rintro e w2 ⟨rfl, hb2⟩; have HB2 := Lib.hid ((HO.out _).trans (hb2.mono (HO.out _).size)); clear hb2)
            exact ⟨⟨j + 1, by have := HJ.out; omega, by go_num, HB.out.trans (HB2.out.mono HB.out.size), HF.out⟩, by have := HJ.out; simp [intOf]; omega⟩
        · replace r1 : (s.toList == [60]) = false := by simpa using r1
          by_cases r2 : (s.toList == [62]) = true
          · have HRT := Lib.hid (show (P && (l.drop (j + 1)).all redirT) = R from by have := HRT.out; rwa [r1, r2, Bool.false_or, Bool.true_or, Bool.true_and] at this)
            cases P
            · have HF := Lib.hid (show false = R from HRT.out)
              go_wp2_with (go_at_call 31; refine (HE.out _).mono ?_; rintro e w2 ⟨rfl, hb2⟩; have HB2 := Lib.hid ((HO.out _).trans (hb2.mono (HO.out _).size)); clear hb2)
              go_ret
              exact ⟨ret_bool HF.out, HW0.out.trans (HB2.out.mono HW0.out.size)⟩
            · have HF := Lib.hid (show (l.drop (j + 1)).all redirT = R from HRT.out)
              go_wp2_with (go_at_call 31; refine (HE.out _).mono ?_; rintro e w2 ⟨rfl, hb2⟩; have HB2 := Lib.hid ((HO.out _).trans (hb2.mono (HO.out _).size)); clear hb2)
              exact ⟨⟨j + 1, by have := HJ.out; omega, by go_num, HB.out.trans (HB2.out.mono HB.out.size), HF.out⟩, by have := HJ.out; simp [intOf]; omega⟩
          · replace r2 : (s.toList == [62]) = false := by simpa using r2
            by_cases r3 : (s.toList == [62, 62]) = true
            · have HRT := Lib.hid (show (P && (l.drop (j + 1)).all redirT) = R from by have := HRT.out; rwa [r1, r2, r3, Bool.false_or, Bool.false_or, Bool.true_and] at this)
              cases P
              · have HF := Lib.hid (show false = R from HRT.out)
                go_wp2_with (go_at_call 31; refine (HE.out _).mono ?_; rintro e w2 ⟨rfl, hb2⟩; have HB2 := Lib.hid ((HO.out _).trans (hb2.mono (HO.out _).size)); clear hb2)
                go_ret
                exact ⟨ret_bool HF.out, HW0.out.trans (HB2.out.mono HW0.out.size)⟩
              · have HF := Lib.hid (show (l.drop (j + 1)).all redirT = R from HRT.out)
                go_wp2_with (go_at_call 31; refine (HE.out _).mono ?_; rintro e w2 ⟨rfl, hb2⟩; have HB2 := Lib.hid ((HO.out _).trans (hb2.mono (HO.out _).size)); clear hb2)
                exact ⟨⟨j + 1, by have := HJ.out; omega, by go_num, HB.out.trans (HB2.out.mono HB.out.size), HF.out⟩, by have := HJ.out; simp [intOf]; omega⟩
            · replace r3 : (s.toList == [62, 62]) = false := by simpa using r3
              have HF := Lib.hid (show false = R from by have := HRT.out; rwa [r1, r2, r3] at this)
              go_wp2_with fail
              go_ret
              exact ⟨ret_bool HF.out, HW0.out.alloc HW0.out.size _⟩
      · obtain rfl : j = RL := by omega
        have hj0 : ¬ (j : Int) < (j : Int) := by omega
        rw [List.drop_of_length_le (by rw [HN.out]; exact Nat.le_refl _)] at hsd
        have HE := Lib.hid (show true = R from hsd)
        have HB := Lib.hid (HB1.out.trans (hb.mono HB1.out.size))
        clear hsd hb hlt hj
        go_wp2_with fail
        go_ret
        exact ⟨ret_bool HE.out, HB.out⟩

set_option maxHeartbeats 1000000 in
set_option maxRecDepth 100000 in
theorem rredirs_any (n : Nd) (kp wp pp ap rp : Option Addr) (kc wc pc ac rc : Nat) (w : World) (hr : AsAt w (.slice rp n.redirs.length rc) n.redirs) (hs : NSmall n) (hT : Tabs w) :
    Calls Tryd.prog 27 #[NV n kp wp pp ap rp kc wc pc ac rc] w fun e w' => e = .returned (.bool (rredirsT n)) ∧ Below w.heap.size w w' := by
  have hol : (T n.op).toList = n.op := by rw [Lib.toList_data]
  cases h : redirOps.contains n.op with
  | true =>
    rw [show rredirsT n = n.redirs.all redirT from by unfold rredirsT; rw [if_pos h]]
    exact rredirs_loop (T n.op) (T n.name) kp wp pp ap rp n.kids.length n.words.length n.pats.length n.assigns.length kc wc pc ac rc n.redirs w (by rw [hol]; exact h) hr hs.redirs hT
  | false =>
    have HR := Lib.hid (show rredirsT n = n.redirs.isEmpty from by unfold rredirsT; rw [h]; rfl)
    rw [HR.out]
    have hE := empty_len n.redirs
    obtain ⟨q0, q1, q2, q3, q4, q5, q6, q7⟩ := redir_none (o := T n.op) (by rw [hol]; exact h)
    have HBX := Lib.hid (fun o => below_one w o)
    show Calls _ _ #[.agg #[.string (T n.op), .string (T n.name), .slice kp n.kids.length kc, .slice wp n.words.length wc, .slice pp n.pats.length pc, .slice ap n.assigns.length ac, .slice rp n.redirs.length rc]] _ _
    generalize T n.op = o at *
    generalize T n.name = x
    generalize n.pats.length = PL
    generalize n.words.length = WL
    generalize n.assigns.length = AL
    obtain ⟨RL, hRL⟩ : ∃ RL, n.redirs.length = RL := ⟨_, rfl⟩
    obtain ⟨E, hEE⟩ : ∃ E, n.redirs.isEmpty = E := ⟨_, rfl⟩
    rw [hRL, hEE] at hE
    rw [hRL, hEE]
    generalize n.kids.length = KL
    clear hRL hEE HR h hol hr hs hT
    cases E
    all_goals
      go_enter Tryd.func27, Tryd.ntmps27
      go_wp2_with fail
      go_ret
      exact ⟨rfl, HBX.out _⟩
end Go.Proofs.YtloaalapkmbgeaaDoor
