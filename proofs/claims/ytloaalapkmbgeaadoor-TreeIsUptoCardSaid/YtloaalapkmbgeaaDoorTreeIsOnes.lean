/-
  Proved: texts joined: Proved: the walk of the law TreeReserved: it answers true and changes nothing that was there. Conditions: the program's shapes lie as they should.
  Proved: a contract of the statements' own cmd, of a node. Conditions: texts of at most 2^20 bytes, rows of at most 2^20; the library's tables lie as they should.
  Proved: a contract of the statements' own pats, of a node. Conditions: texts of at most 2^20 bytes; the library's tables lie as they should.
  Proved: what the statements' own one asks of a node, by contracts. Conditions: as it says.
  Proved: what the statements' own one answers of a node (cmd, seq, pipe, and). Conditions: as it says.
  Proved: what the statements' own one answers of a node (or, not, group, sub, while, until). Conditions: as it says.
-/
import Derived.Test.YtloaalapkmbgeaaDoorTreeKnown
import Derived.Test.YtloaalapkmbgeaaDoorTreeRRedirs
namespace Go.Proofs.YtloaalapkmbgeaaDoor
open Go Go.RowKit GlyphMath LexMath TreeMath

set_option maxHeartbeats 1000000 in
theorem rreserved_any (l : List UInt8) (w : World) :
    Calls Tryd.prog 12 #[.string (T l)] w fun e w' => e = .returned (.bool (reservedT l)) ∧ w = w' := by
  obtain ⟨o, ho⟩ : ∃ o, T l = o := ⟨_, rfl⟩
  have hl : o.toList = l := by rw [← ho, Lib.toList_data]
  rw [ho, ← hl]
  clear ho hl
  obtain ⟨R, hR⟩ : ∃ R, reservedT o.toList = R := ⟨_, rfl⟩
  have HR := Lib.hid hR
  rw [hR]
  clear hR
  go_enter Tryd.func12, Tryd.ntmps12
  go_wp2_with fail
  all_goals
    go_ret
    refine ⟨ret_bool ?_, rfl⟩
    rw [← HR.out]
    first
      | (simp only [reservedT, reservedL, List.contains_cons, List.contains_nil, Bool.or_false, Bool.true_or, Bool.false_or, *]; done)
      | (simp_all; done)

theorem reserved_law (s : ByteArray) (w : World) (hS : Shapes w) :
    Calls Tryd.prog 4 #[.string s] w fun e w' => e = .returned (.bool true) ∧ Below w.heap.size w w' := by
  have HA := Lib.hid (show ∀ W, Calls Tryd.prog 11 #[.string s] W fun e w' => e = .returned (.bool (reservedT s.data.toList)) ∧ W = w' from fun W => reserved_any s.data.toList W)
  have HB := Lib.hid (show ∀ W, Calls Tryd.prog 12 #[.string s] W fun e w' => e = .returned (.bool (reservedT s.data.toList)) ∧ W = w' from fun W => rreserved_any s.data.toList W)
  have HK := Lib.hid (known_any w hS)
  generalize reservedT s.data.toList = R at HA HB
  clear hS
  cases R
  all_goals
    go_enter Tryd.func4, Tryd.ntmps4
    go_wp2_with (first
      | (go_at_call 11; refine (HA.out _).mono ?_; rintro e w1 ⟨rfl, rfl⟩)
      | (go_at_call 12; refine (HB.out _).mono ?_; rintro e w1 ⟨rfl, rfl⟩)
      | (go_at_call 10; refine HK.out.mono ?_; rintro e w1 ⟨rfl, hb⟩; have HB2 := Lib.hid hb; clear hb))
    go_ret
    exact ⟨rfl, HB2.out⟩
end Go.Proofs.YtloaalapkmbgeaaDoor

namespace Go.Proofs.YtloaalapkmbgeaaDoor
open Go Go.RowKit GlyphMath LexMath TreeMath

theorem plain_match (w0 : List Pt) : (match plainT w0 with | none => true | some t => !reservedT t) = (!(plainT w0).isSome || !reservedT ((plainT w0).getD [])) := by
  cases plainT w0 with
  | none => rfl
  | some t => rfl

set_option maxHeartbeats 2000000 in
set_option maxRecDepth 100000 in
theorem rcmd_any (n : Nd) (kp wp pp ap rp : Option Addr) (kc wc pc ac rc : Nat) (w : World) (hw : WsAt w (.slice wp n.words.length wc) n.words) (ha : AsAt w (.slice ap n.assigns.length ac) n.assigns) (hs : NSmall n) (hl : n.assigns.length ≤ 1048576 ∧ n.redirs.length ≤ 1048576) (hT : Tabs w) :
    Calls Tryd.prog 28 #[NV n kp wp pp ap rp kc wc pc ac rc] w fun e w' => e = .returned (.bool (rcmdT n)) ∧ Below w.heap.size w w' := by
  obtain ⟨op, name, kids, words, pats, l, redirs⟩ := n
  have HSM := Lib.hid hs
  have HT := Lib.hid hT
  have HWV := Lib.hid hw
  obtain ⟨R, hR⟩ : ∃ R, rcmdT ⟨op, name, kids, words, pats, l, redirs⟩ = R := ⟨_, rfl⟩
  rw [hR]
  obtain ⟨X, hX⟩ : ∃ X, (commandT ⟨op, name, kids, words, pats, l, redirs⟩ && words.all bareW) = X := ⟨_, rfl⟩
  have HR := Lib.hid (show (l.all assignT && X) = R from by rw [← hX]; exact hR)
  have HX := Lib.hid hX
  have hEA := pos_len l
  have hED := pos_len redirs
  show Calls _ _ #[.agg #[.string (T op), .string (T name), .slice kp kids.length kc, .slice wp words.length wc, .slice pp pats.length pc, .slice ap l.length ac, .slice rp redirs.length rc]] _ _
  have hl1 : l.length ≤ 1048576 := hl.1
  have hl2 : redirs.length ≤ 1048576 := hl.2
  have HV := Lib.hid (show AsAt w (.slice ap l.length ac) l from ha)
  generalize T op = o
  generalize T name = x
  generalize kids.length = KL
  generalize pats.length = PL
  obtain ⟨AL, hAL⟩ : ∃ N, l.length = N := ⟨_, rfl⟩
  obtain ⟨RL, hRL⟩ : ∃ N, redirs.length = N := ⟨_, rfl⟩
  obtain ⟨WL, hWL⟩ : ∃ N, words.length = N := ⟨_, rfl⟩
  have HWL := Lib.hid hWL
  have HN := Lib.hid hAL
  have HEA := Lib.hid (show decide ((0 : Int) < (AL : Int)) = !l.isEmpty from by rw [← hAL]; exact hEA)
  have HED := Lib.hid (show decide ((0 : Int) < (RL : Int)) = !redirs.isEmpty from by rw [← hRL]; exact hED)
  have HWV := Lib.hid (show WsAt w (.slice wp WL wc) words from by rw [← hWL]; exact HWV.out)
  rw [hAL] at hl1 HV
  rw [hRL] at hl2
  rw [hAL, hRL, hWL]
  have hN0 : (AL : Int) ≤ 1048576 := by omega
  have hR0 : (RL : Int) ≤ 1048576 := by omega
  have HA := Lib.hid (node_all w)
  have HBX := Lib.hid (fun o => below_one w o)
  clear hw ha hs hl hT hR hX hEA hED hl1 hl2 hAL hRL hWL
  go_enter Tryd.func28, Tryd.ntmps28
  go_wp2_with fail
  obtain ⟨w1, hw1⟩ : ∃ w1, w.alloc (.cells #[.string o, .string x, .slice kp KL kc, .slice wp WL wc, .slice pp PL pc, .slice ap AL ac, .slice rp RL rc] 49) = w1 := ⟨_, rfl⟩
  have HB1 := Lib.hid (show Below w.heap.size w w1 by rw [← hw1]; exact HBX.out _)
  have HNC := Lib.hid (show ∀ W, Below w1.heap.size w1 W → _ from by rw [← hw1]; exact HA.out o x (.slice kp KL kc) (.slice wp WL wc) (.slice pp PL pc) (.slice ap AL ac) (.slice rp RL rc) 49)
  rw [hw1]
  clear hw1
  go_loopw [3] (fun i wr => ∃ j, j ≤ AL ∧ i = .int .i64 (j : Int) ∧ Below w1.heap.size w1 wr ∧ ((l.drop j).all assignT && X) = R) (fun i _ => AL - (intOf i).toNat)
  case atStart => exact ⟨0, by omega, rfl, Below.refl _ _, HR.out⟩
  case round =>
    obtain ⟨j, hj, rfl, hb, hsd⟩ := hrel
    obtain ⟨n0, n1, n2, n3, n4, n5, n6⟩ := HNC.out wr hb
    by_cases hlt : j < AL
    · obtain ⟨y, hy⟩ : ∃ y, l[j]? = some y := ⟨_, List.getElem?_eq_getElem (by rw [HN.out]; exact hlt)⟩
      obtain ⟨bb, oo, rfl⟩ := SlAt.ptr HV.out hy
      obtain ⟨cs, ⟨u, rfl, hu⟩, hcc⟩ := SlAt.cell HV.out rfl hy
      have hj0 : (j : Int) < (AL : Int) := by omega
      have hym := List.mem_of_getElem? hy
      rw [drop_get hy, List.all_cons] at hsd
      have HB := Lib.hid hb
      have HW0 := Lib.hid (HB1.out.trans (hb.mono HB1.out.size))
      have HJ := Lib.hid hlt
      have c0 : wr.cell? ⟨bb, oo + j * 2, none⟩ = some (.string (T y.1)) := by
        have := cell_below (hcc 0 _ rfl) HW0.out
        rwa [show oo + j * 2 + 0 = oo + j * 2 by omega] at this
      have c1 : wr.cell? ⟨bb, oo + j * 2 + 1, none⟩ = some u := cell_below (hcc 1 _ rfl) HW0.out
      have HC1 := Lib.hid c1
      obtain ⟨up, uc, rfl, -, -⟩ := hu.is
      have HN1 := Lib.hid (show Calls Tryd.prog 29 #[.string (T y.1)] wr fun e w' => e = .returned (.bool (nameT y.1)) ∧ Below wr.heap.size wr w' from rname_any (T y.1) wr (by have := HSM.out.names y hym; show y.1.length ≤ _; omega) (HT.out.below HW0.out))
      have HW1 := Lib.hid (fun W (hb : Below wr.heap.size wr W) => rword_any y.2 (.slice up y.2.length uc) W ((hu.stays HW0.out).stays hb) (HSM.out.assigns y hym) ((HT.out.below HW0.out).below hb))
      unfold wordV at HW1
      obtain ⟨ul, hul⟩ : ∃ ul, y.2.length = ul := ⟨_, rfl⟩
      obtain ⟨A, hA⟩ : ∃ P, nameT y.1 = P := ⟨_, rfl⟩
      obtain ⟨P, hP⟩ : ∃ P, wordT y.2 = P := ⟨_, rfl⟩
      have HRT := Lib.hid (show (((A && P) && (l.drop (j + 1)).all assignT) && X) = R from by rw [← hP, ← hA]; exact hsd)
      rw [hP] at HW1
      rw [hA] at HN1
      rw [hul] at HW1 c1 HC1
      obtain ⟨s, hs⟩ : ∃ s, T y.1 = s := ⟨_, rfl⟩
      rw [hs] at c0 HN1
      clear hul hP hA hs hsd hb hlt hj hy hcc hu hym
      cases A with
      | false =>
        have HF := Lib.hid (show false = R from HRT.out)
        go_wp2_with (go_at_call 29; refine HN1.out.mono ?_; rintro e w2 ⟨rfl, hb2⟩; have HB2 := Lib.hid hb2; clear hb2)
        go_ret
        exact ⟨ret_bool HF.out, HW0.out.trans (HB2.out.mono HW0.out.size)⟩
      | true =>
        cases P
        · have HF := Lib.hid (show false = R from HRT.out)
          go_wp2_with (first
            | (go_at_call 29; refine HN1.out.mono ?_; rintro e w2 ⟨rfl, hb2⟩; have HB2 := Lib.hid hb2; obtain ⟨m0, m1, m2, m3, m4, m5, m6⟩ := HNC.out w2 (HB.out.trans (hb2.mono HB.out.size)); have k1 := cell_below HC1.out hb2; clear hb2)
            | (go_at_call 57; refine (HW1.out _ HB2.out).mono ?_; rintro e w3 ⟨rfl, hb3⟩; have HB3 := Lib.hid (HB2.out.trans (hb3.mono HB2.out.size)); clear hb3))
          go_ret
          exact ⟨ret_bool HF.out, HW0.out.trans (HB3.out.mono HW0.out.size)⟩
        · have HF := Lib.hid (show ((l.drop (j + 1)).all assignT && X) = R from HRT.out)
          go_wp2_with (first
            | (go_at_call 29; refine HN1.out.mono ?_; rintro e w2 ⟨rfl, hb2⟩; have HB2 := Lib.hid hb2; obtain ⟨m0, m1, m2, m3, m4, m5, m6⟩ := HNC.out w2 (HB.out.trans (hb2.mono HB.out.size)); have k1 := cell_below HC1.out hb2; clear hb2)
            | (go_at_call 57; refine (HW1.out _ HB2.out).mono ?_; rintro e w3 ⟨rfl, hb3⟩; have HB3 := Lib.hid (HB2.out.trans (hb3.mono HB2.out.size)); clear hb3))
          exact ⟨⟨j + 1, by have := HJ.out; omega, by go_num, HB.out.trans (HB3.out.mono HB.out.size), HF.out⟩, by have := HJ.out; simp [intOf]; omega⟩
    · obtain rfl : j = AL := by omega
      have hj0 : ¬ (j : Int) < (j : Int) := by omega
      rw [List.drop_of_length_le (by rw [HN.out]; exact Nat.le_refl _)] at hsd
      have HXR := Lib.hid (show X = R from hsd)
      have HQ0 := Lib.hid hb
      have HW0 := Lib.hid (HB1.out.trans (hb.mono HB1.out.size))
      clear hsd hb hlt hj
      cases words with
      | nil =>
        have h0 : ((WL : Int) == 0) = true := by rw [← HWL.out]; rfl
        have HF := Lib.hid (show (!l.isEmpty || !redirs.isEmpty) = R from by rw [← HXR.out, ← HX.out]; exact (Bool.and_true _).symm)
        rw [← HEA.out, ← HED.out] at HF
        have e1 : IntKind.i64.wrap ((j : Int) + (RL : Int)) = (j : Int) + (RL : Int) := IntWalk.i64_in _ ⟨by omega, by omega⟩
        by_cases hp : (0 : Int) < (j : Int) + (RL : Int)
        · have HF2 := Lib.hid (show true = R from by
            rw [← HF.out]
            by_cases h1 : (0 : Int) < (j : Int)
            · rw [decide_eq_true h1]; rfl
            · rw [decide_eq_true (show (0 : Int) < (RL : Int) by omega)]; simp)
          clear HF HED HEA
          go_wp2_with fail
          go_ret
          exact ⟨ret_bool (by rw [← HF2.out]), HW0.out⟩
        · have HF2 := Lib.hid (show false = R from by
            rw [← HF.out, decide_eq_false (show ¬ (0 : Int) < (j : Int) by omega), decide_eq_false (show ¬ (0 : Int) < (RL : Int) by omega)]; rfl)
          clear HF HED HEA
          go_wp2_with fail
          go_ret
          exact ⟨ret_bool (by rw [← HF2.out]), HW0.out⟩
      | cons w0 r =>
        obtain ⟨bb, oo, rfl⟩ := SlAt.ptr HWV.out (k := 0) (x := w0) rfl
        obtain ⟨cs, ⟨u, rfl, hu⟩, hcc⟩ := SlAt.cell HWV.out rfl (k := 0) (x := w0) rfl
        obtain ⟨up, uc, rfl, -, -⟩ := hu.is
        have h0 : ((WL : Int) == 0) = false := by rw [← HWL.out]; exact int_ne (by rw [List.length_cons]; omega)
        have h00 : (0 : Int) < (WL : Int) := by have := HWL.out; rw [List.length_cons] at this; omega
        have HD := Lib.hid (show ∀ W, Below w1.heap.size w1 W → W.cell? ⟨bb, oo, none⟩ = some (.slice up w0.length uc) from fun W hW => by
          have := cell_below (hcc 0 _ rfl) (HB1.out.trans (hW.mono HB1.out.size))
          rwa [show oo + 0 * 1 + 0 = oo by omega] at this)
        have HIA := Lib.hid (show ∀ W, Below w1.heap.size w1 W → Calls Tryd.prog 58 #[.agg #[.slice up w0.length uc]] W fun e w' => ∃ n : Int, e = .returned (.tuple #[.int .i64 n, .bool (givesT w0)]) ∧ Below W.heap.size W w' from fun W hW =>
          risassign_any w0 _ W (hu.stays (HB1.out.trans (hW.mono HB1.out.size))) (HSM.out.words w0 (by simp)) (HT.out.below (HB1.out.trans (hW.mono HB1.out.size))))
        have HPL := Lib.hid (show ∀ W, Below w1.heap.size w1 W → Calls Tryd.prog 59 #[.agg #[.slice up w0.length uc]] W fun e w' => e = .returned (.tuple #[.string (T ((plainT w0).getD [])), .bool (plainT w0).isSome]) ∧ Below W.heap.size W w' from fun W hW =>
          rplain_any w0 _ W (hu.stays (HB1.out.trans (hW.mono HB1.out.size))))
        have HRS := Lib.hid (fun W => rreserved_any ((plainT w0).getD []) W)
        have HOP := Lib.hid (fun W (hW : Below w1.heap.size w1 W) => ropens_any (w0 :: r) _ W (WsAt.below HWV.out (HB1.out.trans (hW.mono HB1.out.size))) HSM.out.words (HT.out.below (HB1.out.trans (hW.mono HB1.out.size))))
        obtain ⟨G, hG⟩ : ∃ G, givesT w0 = G := ⟨_, rfl⟩
        obtain ⟨S, hS⟩ : ∃ G, (plainT w0).isSome = G := ⟨_, rfl⟩
        obtain ⟨RS, hRS⟩ : ∃ G, reservedT ((plainT w0).getD []) = G := ⟨_, rfl⟩
        obtain ⟨WA, hWA⟩ : ∃ G, (w0 :: r).all bareW = G := ⟨_, rfl⟩
        have HF := Lib.hid (show ((!G && (!l.isEmpty || (!S || !RS))) && WA) = R from by
          rw [← HXR.out, ← HX.out, ← hG, ← hS, ← hRS, ← hWA, ← plain_match]
          rfl)
        rw [← HEA.out] at HF
        rw [hG] at HIA
        rw [hS] at HPL
        rw [hRS] at HRS
        rw [hWA] at HOP
        obtain ⟨ul, hul⟩ : ∃ ul, w0.length = ul := ⟨_, rfl⟩
        rw [hul] at HD HIA HPL
        obtain ⟨t, ht⟩ : ∃ t, T ((plainT w0).getD []) = t := ⟨_, rfl⟩
        rw [ht] at HPL HRS
        have d0 := HD.out wr HQ0.out
        clear hG hS hRS hWA hul ht hcc hu HED HEA
        cases G with
        | true =>
          have HF := Lib.hid (show false = R from by rw [← HF.out]; simp)
          go_wp2_with (first
            | (go_at_call 58; refine (HIA.out _ HQ0.out).mono ?_; rintro e w2 ⟨ni, rfl, hb2⟩; have HQ1 := Lib.hid (HQ0.out.trans (hb2.mono HQ0.out.size)); obtain ⟨m0, m1, m2, m3, m4, m5, m6⟩ := HNC.out w2 HQ1.out; have d1 := HD.out w2 HQ1.out; clear hb2)
            | (go_at_call 59; refine (HPL.out _ HQ1.out).mono ?_; rintro e w3 ⟨rfl, hb3⟩; have HQ2 := Lib.hid (HQ1.out.trans (hb3.mono HQ1.out.size)); obtain ⟨m0, m1, m2, m3, m4, m5, m6⟩ := HNC.out w3 HQ2.out; clear hb3))
          go_ret
          exact ⟨ret_bool HF.out, HB1.out.trans (HQ2.out.mono HB1.out.size)⟩
        | false =>
          by_cases hp : (0 : Int) < (j : Int)
          · have HF := Lib.hid (show WA = R from by rw [← HF.out, decide_eq_true hp]; simp)
            go_wp2_with (first
              | (go_at_call 58; refine (HIA.out _ HQ0.out).mono ?_; rintro e w2 ⟨ni, rfl, hb2⟩; have HQ1 := Lib.hid (HQ0.out.trans (hb2.mono HQ0.out.size)); obtain ⟨m0, m1, m2, m3, m4, m5, m6⟩ := HNC.out w2 HQ1.out; have d1 := HD.out w2 HQ1.out; clear hb2)
              | (go_at_call 59; refine (HPL.out _ HQ1.out).mono ?_; rintro e w3 ⟨rfl, hb3⟩; have HQ2 := Lib.hid (HQ1.out.trans (hb3.mono HQ1.out.size)); obtain ⟨m0, m1, m2, m3, m4, m5, m6⟩ := HNC.out w3 HQ2.out; clear hb3)
              | (go_at_call 12; refine (HRS.out _).mono ?_; rintro e w4 ⟨rfl, rfl⟩)
              | (go_at_call 30; refine (HOP.out _ HQ2.out).mono ?_; rintro e w5 ⟨rfl, hb5⟩; have HQ3 := Lib.hid (HQ2.out.trans (hb5.mono HQ2.out.size)); clear hb5))
            go_ret
            exact ⟨ret_bool HF.out, HB1.out.trans (HQ3.out.mono HB1.out.size)⟩
          · rw [decide_eq_false hp] at HF
            cases S with
            | false =>
              have HF := Lib.hid (show WA = R from by rw [← HF.out]; simp)
              go_wp2_with (first
                | (go_at_call 58; refine (HIA.out _ HQ0.out).mono ?_; rintro e w2 ⟨ni, rfl, hb2⟩; have HQ1 := Lib.hid (HQ0.out.trans (hb2.mono HQ0.out.size)); obtain ⟨m0, m1, m2, m3, m4, m5, m6⟩ := HNC.out w2 HQ1.out; have d1 := HD.out w2 HQ1.out; clear hb2)
                | (go_at_call 59; refine (HPL.out _ HQ1.out).mono ?_; rintro e w3 ⟨rfl, hb3⟩; have HQ2 := Lib.hid (HQ1.out.trans (hb3.mono HQ1.out.size)); obtain ⟨m0, m1, m2, m3, m4, m5, m6⟩ := HNC.out w3 HQ2.out; clear hb3)
                | (go_at_call 12; refine (HRS.out _).mono ?_; rintro e w4 ⟨rfl, rfl⟩)
                | (go_at_call 30; refine (HOP.out _ HQ2.out).mono ?_; rintro e w5 ⟨rfl, hb5⟩; have HQ3 := Lib.hid (HQ2.out.trans (hb5.mono HQ2.out.size)); clear hb5))
              go_ret
              exact ⟨ret_bool HF.out, HB1.out.trans (HQ3.out.mono HB1.out.size)⟩
            | true =>
              cases RS with
              | false =>
                have HF := Lib.hid (show WA = R from by rw [← HF.out]; simp)
                go_wp2_with (first
                  | (go_at_call 58; refine (HIA.out _ HQ0.out).mono ?_; rintro e w2 ⟨ni, rfl, hb2⟩; have HQ1 := Lib.hid (HQ0.out.trans (hb2.mono HQ0.out.size)); obtain ⟨m0, m1, m2, m3, m4, m5, m6⟩ := HNC.out w2 HQ1.out; have d1 := HD.out w2 HQ1.out; clear hb2)
                  | (go_at_call 59; refine (HPL.out _ HQ1.out).mono ?_; rintro e w3 ⟨rfl, hb3⟩; have HQ2 := Lib.hid (HQ1.out.trans (hb3.mono HQ1.out.size)); obtain ⟨m0, m1, m2, m3, m4, m5, m6⟩ := HNC.out w3 HQ2.out; clear hb3)
                  | (go_at_call 12; refine (HRS.out _).mono ?_; rintro e w4 ⟨rfl, rfl⟩)
                  | (go_at_call 30; refine (HOP.out _ HQ2.out).mono ?_; rintro e w5 ⟨rfl, hb5⟩; have HQ3 := Lib.hid (HQ2.out.trans (hb5.mono HQ2.out.size)); clear hb5))
                go_ret
                exact ⟨ret_bool HF.out, HB1.out.trans (HQ3.out.mono HB1.out.size)⟩
              | true =>
                have HF := Lib.hid (show false = R from by rw [← HF.out]; simp)
                go_wp2_with (first
                  | (go_at_call 58; refine (HIA.out _ HQ0.out).mono ?_; rintro e w2 ⟨ni, rfl, hb2⟩; have HQ1 := Lib.hid (HQ0.out.trans (hb2.mono HQ0.out.size)); obtain ⟨m0, m1, m2, m3, m4, m5, m6⟩ := HNC.out w2 HQ1.out; have d1 := HD.out w2 HQ1.out; clear hb2)
                  | (go_at_call 59; refine (HPL.out _ HQ1.out).mono ?_; rintro e w3 ⟨rfl, hb3⟩; have HQ2 := Lib.hid (HQ1.out.trans (hb3.mono HQ1.out.size)); obtain ⟨m0, m1, m2, m3, m4, m5, m6⟩ := HNC.out w3 HQ2.out; clear hb3)
                  | (go_at_call 12; refine (HRS.out _).mono ?_; rintro e w4 ⟨rfl, rfl⟩)
                  | (go_at_call 30; refine (HOP.out _ HQ2.out).mono ?_; rintro e w5 ⟨rfl, hb5⟩; have HQ3 := Lib.hid (HQ2.out.trans (hb5.mono HQ2.out.size)); clear hb5))
                go_ret
                exact ⟨ret_bool HF.out, HB1.out.trans (HQ2.out.mono HB1.out.size)⟩
end Go.Proofs.YtloaalapkmbgeaaDoor

namespace Go.Proofs.YtloaalapkmbgeaaDoor
open Go Go.RowKit GlyphMath LexMath TreeMath

set_option maxHeartbeats 1000000 in
set_option maxRecDepth 100000 in
theorem rpats_loop (o x : ByteArray) (kp wp pp ap rp : Option Addr) (KL WL AL RL kc wc pc ac rc : Nat) (l : List (List (List Pt))) (w : World) (hv : PatsAt w (.slice pp l.length pc) l) (hs : ∀ x ∈ l, ∀ y ∈ x, Small y) (hT : Tabs w) :
    Calls Tryd.prog 32 #[.agg #[.string o, .string x, .slice kp KL kc, .slice wp WL wc, .slice pp l.length pc, .slice ap AL ac, .slice rp RL rc]] w fun e w' => e = .returned (.bool (l.all patT && (l.length == KL))) ∧ Below w.heap.size w w' := by
  have HV := Lib.hid hv
  have HS := Lib.hid hs
  have HT := Lib.hid hT
  have hfew := hv.few
  obtain ⟨R, hR⟩ : ∃ R, (l.all patT && (l.length == KL)) = R := ⟨_, rfl⟩
  have HR := Lib.hid hR
  obtain ⟨PL, hN⟩ : ∃ N, l.length = N := ⟨_, rfl⟩
  have HN := Lib.hid hN
  have hN0 : (PL : Int) ≤ 2 ^ 63 - 1 := by unfold maxLen at hfew; omega
  rw [hR]
  rw [hN] at HV ⊢
  have HR := Lib.hid (show (l.all patT && (PL == KL)) = R from by rw [← hN]; exact HR.out)
  have HA := Lib.hid (node_all w)
  have HBX := Lib.hid (fun o => below_one w o)
  clear hv hs hR hN hfew hT
  go_enter Tryd.func32, Tryd.ntmps32
  go_wp2_with fail
  obtain ⟨w1, hw1⟩ : ∃ w1, w.alloc (.cells #[.string o, .string x, .slice kp KL kc, .slice wp WL wc, .slice pp PL pc, .slice ap AL ac, .slice rp RL rc] 49) = w1 := ⟨_, rfl⟩
  have HB1 := Lib.hid (show Below w.heap.size w w1 by rw [← hw1]; exact HBX.out _)
  have HNC := Lib.hid (show ∀ W, Below w1.heap.size w1 W → _ from by rw [← hw1]; exact HA.out o x (.slice kp KL kc) (.slice wp WL wc) (.slice pp PL pc) (.slice ap AL ac) (.slice rp RL rc) 49)
  rw [hw1]
  clear hw1
  go_loopw [3] (fun i wr => ∃ j, j ≤ PL ∧ i = .int .i64 (j : Int) ∧ Below w1.heap.size w1 wr ∧ ((l.drop j).all patT && (PL == KL)) = R) (fun i _ => PL - (intOf i).toNat)
  case atStart => exact ⟨0, by omega, rfl, Below.refl _ _, HR.out⟩
  case round =>
    obtain ⟨j, hj, rfl, hb, hsd⟩ := hrel
    obtain ⟨n0, n1, n2, n3, n4, n5, n6⟩ := HNC.out wr hb
    by_cases hlt : j < PL
    · obtain ⟨y, hy⟩ : ∃ y, l[j]? = some y := ⟨_, List.getElem?_eq_getElem (by rw [HN.out]; exact hlt)⟩
      obtain ⟨bb, oo, rfl⟩ := SlAt.ptr HV.out hy
      obtain ⟨cs, ⟨u, rfl, hu⟩, hcc⟩ := SlAt.cell HV.out rfl hy
      have hj0 : (j : Int) < (PL : Int) := by omega
      have HSX := Lib.hid (HS.out y (List.mem_of_getElem? hy))
      rw [drop_get hy, List.all_cons] at hsd
      have HB := Lib.hid hb
      have HW0 := Lib.hid (HB1.out.trans (hb.mono HB1.out.size))
      have HJ := Lib.hid hlt
      have c0 : wr.cell? ⟨bb, oo + j, none⟩ = some u := by
        have := cell_below (hcc 0 _ rfl) HW0.out
        rwa [show oo + j * 1 + 0 = oo + j by omega] at this
      obtain ⟨up, uc, rfl⟩ := WsAt.is hu
      have HE := Lib.hid (ropens_any y (.slice up y.length uc) wr (WsAt.below hu HW0.out) HSX.out (HT.out.below HW0.out))
      have hE := empty_len y
      obtain ⟨ul, hul⟩ : ∃ ul, y.length = ul := ⟨_, rfl⟩
      obtain ⟨P, hP⟩ : ∃ P, y.all bareW = P := ⟨_, rfl⟩
      obtain ⟨E, hEE⟩ : ∃ E, y.isEmpty = E := ⟨_, rfl⟩
      have HRT := Lib.hid (show (((!E && P) && (l.drop (j + 1)).all patT) && (PL == KL)) = R from by rw [← hP, ← hEE]; exact hsd)
      rw [hP] at HE
      rw [hul] at HE c0 hE
      rw [hEE] at hE
      clear hul hP hEE hsd hb hlt hj hy hcc hu
      cases E with
      | true =>
        have HF := Lib.hid (show false = R from HRT.out)
        go_wp2_with fail
        go_ret
        exact ⟨ret_bool HF.out, HW0.out⟩
      | false =>
        cases P
        · have HF := Lib.hid (show false = R from HRT.out)
          go_wp2_with (go_at_call 30; refine HE.out.mono ?_; rintro e w2 ⟨rfl, hb2⟩; have HB2 := Lib.hid hb2; clear hb2)
          go_ret
          exact ⟨ret_bool HF.out, HW0.out.trans (HB2.out.mono HW0.out.size)⟩
        · have HF := Lib.hid (show ((l.drop (j + 1)).all patT && (PL == KL)) = R from HRT.out)
          go_wp2_with (go_at_call 30; refine HE.out.mono ?_; rintro e w2 ⟨rfl, hb2⟩; have HB2 := Lib.hid hb2; clear hb2)
          exact ⟨⟨j + 1, by have := HJ.out; omega, by go_num, HB.out.trans (HB2.out.mono HB.out.size), HF.out⟩, by have := HJ.out; simp [intOf]; omega⟩
    · obtain rfl : j = PL := by omega
      have hj0 : ¬ (j : Int) < (j : Int) := by omega
      rw [List.drop_of_length_le (by rw [HN.out]; exact Nat.le_refl _)] at hsd
      have HE := Lib.hid (show (j == KL) = R from hsd)
      have HB := Lib.hid (HB1.out.trans (hb.mono HB1.out.size))
      have hk := nat_beq j KL
      obtain ⟨Q, hQ⟩ : ∃ Q, (j == KL) = Q := ⟨_, rfl⟩
      rw [hQ] at hk HE
      clear hsd hb hlt hj hQ
      go_wp2_with fail
      go_ret
      exact ⟨ret_bool HE.out, HB.out⟩
theorem rpats_any (n : Nd) (kp wp pp ap rp : Option Addr) (kc wc pc ac rc : Nat) (w : World) (hp : PatsAt w (.slice pp n.pats.length pc) n.pats) (hs : NSmall n) (hT : Tabs w) :
    Calls Tryd.prog 32 #[NV n kp wp pp ap rp kc wc pc ac rc] w fun e w' => e = .returned (.bool (rpatsT n)) ∧ Below w.heap.size w w' :=
  rpats_loop (T n.op) (T n.name) kp wp pp ap rp n.kids.length n.words.length n.assigns.length n.redirs.length kc wc pc ac rc n.pats w hp hs.pats hT
end Go.Proofs.YtloaalapkmbgeaaDoor

namespace Go.Proofs.YtloaalapkmbgeaaDoor
open Go Go.RowKit GlyphMath LexMath TreeMath

/-- What one's calls answer. -/
structure OneC (w : World) (o x : ByteArray) (kp wp pp ap rp : Option Addr) (KL WL PL AL RL kc wc pc ac rc : Nat) (RD CM N RS WA PT : Bool) : Prop where
  rd : ∀ W, Below w.heap.size w W → Calls Tryd.prog 27 #[.agg #[.string o, .string x, .slice kp KL kc, .slice wp WL wc, .slice pp PL pc, .slice ap AL ac, .slice rp RL rc]] W fun e w' => e = .returned (.bool RD) ∧ Below W.heap.size W w'
  cm : ∀ W, Below w.heap.size w W → Calls Tryd.prog 28 #[.agg #[.string o, .string x, .slice kp KL kc, .slice wp WL wc, .slice pp PL pc, .slice ap AL ac, .slice rp RL rc]] W fun e w' => e = .returned (.bool CM) ∧ Below W.heap.size W w'
  pt : ∀ W, Below w.heap.size w W → Calls Tryd.prog 32 #[.agg #[.string o, .string x, .slice kp KL kc, .slice wp WL wc, .slice pp PL pc, .slice ap AL ac, .slice rp RL rc]] W fun e w' => e = .returned (.bool PT) ∧ Below W.heap.size W w'
  nm : ∀ W, Below w.heap.size w W → Calls Tryd.prog 29 #[.string x] W fun e w' => e = .returned (.bool N) ∧ Below W.heap.size W w'
  rs : ∀ W, Calls Tryd.prog 12 #[.string x] W fun e w' => e = .returned (.bool RS) ∧ W = w'
  op : ∀ W, Below w.heap.size w W → Calls Tryd.prog 30 #[.slice wp WL wc] W fun e w' => e = .returned (.bool WA) ∧ Below W.heap.size W w'
  w0 : WL = 1 → ∃ bb oo u, wp = some ⟨bb, oo, none⟩ ∧ (∀ W, Below w.heap.size w W → W.cell? ⟨bb, oo, none⟩ = some u) ∧ ∀ W, Below w.heap.size w W → Calls Tryd.prog 31 #[.agg #[u]] W fun e w' => e = .returned (.bool WA) ∧ Below W.heap.size W w'
def opsL : List (List UInt8) := [[99, 109, 100], [115, 101, 113], [97, 110, 100], [111, 114], [110, 111, 116], [112, 105, 112, 101], [105, 102], [119, 104, 105, 108, 101], [117, 110, 116, 105, 108], [102, 111, 114], [99, 97, 115, 101], [102, 117, 110], [103, 114, 111, 117, 112], [115, 117, 98]]
theorem ops_none {l : List UInt8} (h : opsL.contains l = false) : (l == [99, 109, 100]) = false ∧ (l == [115, 101, 113]) = false ∧ (l == [97, 110, 100]) = false ∧ (l == [111, 114]) = false ∧ (l == [110, 111, 116]) = false ∧ (l == [112, 105, 112, 101]) = false ∧ (l == [105, 102]) = false ∧ (l == [119, 104, 105, 108, 101]) = false ∧ (l == [117, 110, 116, 105, 108]) = false ∧ (l == [102, 111, 114]) = false ∧ (l == [99, 97, 115, 101]) = false ∧ (l == [102, 117, 110]) = false ∧ (l == [103, 114, 111, 117, 112]) = false ∧ (l == [115, 117, 98]) = false := by
  simpa [opsL] using h
end Go.Proofs.YtloaalapkmbgeaaDoor

namespace Go.Proofs.YtloaalapkmbgeaaDoor
open Go Go.RowKit GlyphMath LexMath TreeMath

set_option maxHeartbeats 16000000 in
set_option maxRecDepth 100000 in
theorem rone_cmd {w : World} {o x : ByteArray} {kp wp pp ap rp : Option Addr} {KL WL PL AL RL kc wc pc ac rc : Nat} {RD CM N RS WA PT EA EP EN EW : Bool} (ho : o.toList = [99, 109, 100]) (h : OneC w o x kp wp pp ap rp KL WL PL AL RL kc wc pc ac rc RD CM N RS WA PT)
    (_hA : decide ((0 : Int) < (AL : Int)) = !EA) (hP : decide ((0 : Int) < (PL : Int)) = !EP) (_hW : decide ((0 : Int) < (WL : Int)) = !EW) (hN : x.toList.isEmpty = EN) :
    Calls Tryd.prog 16 #[.agg #[.string o, .string x, .slice kp KL kc, .slice wp WL wc, .slice pp PL pc, .slice ap AL ac, .slice rp RL rc]] w fun e w' => e = .returned (.bool (RD && (EP && (EN && (((KL : Int) == 0) && CM))))) ∧ Below w.heap.size w w' := by
  have q0 : (o.toList == [99, 109, 100]) = true := by rw [ho]; decide
  have q1 : (o.toList == [115, 101, 113]) = false := by rw [ho]; decide
  have q2 : (o.toList == [97, 110, 100]) = false := by rw [ho]; decide
  have q3 : (o.toList == [111, 114]) = false := by rw [ho]; decide
  have q4 : (o.toList == [110, 111, 116]) = false := by rw [ho]; decide
  have q5 : (o.toList == [112, 105, 112, 101]) = false := by rw [ho]; decide
  have q6 : (o.toList == [105, 102]) = false := by rw [ho]; decide
  have q7 : (o.toList == [119, 104, 105, 108, 101]) = false := by rw [ho]; decide
  have q8 : (o.toList == [117, 110, 116, 105, 108]) = false := by rw [ho]; decide
  have q9 : (o.toList == [102, 111, 114]) = false := by rw [ho]; decide
  have q10 : (o.toList == [99, 97, 115, 101]) = false := by rw [ho]; decide
  have q11 : (o.toList == [102, 117, 110]) = false := by rw [ho]; decide
  have q12 : (o.toList == [103, 114, 111, 117, 112]) = false := by rw [ho]; decide
  have q13 : (o.toList == [115, 117, 98]) = false := by rw [ho]; decide
  have HH := Lib.hid h
  have HA := Lib.hid (node_all w o x (.slice kp KL kc) (.slice wp WL wc) (.slice pp PL pc) (.slice ap AL ac) (.slice rp RL rc) 49)
  have HBX := Lib.hid (fun o => below_one w o)
  clear h ho
  cases RD with
  | false =>
    go_enter Tryd.func16, Tryd.ntmps16
    go_wp2_with fail
    obtain ⟨v, hv⟩ : ∃ v, w.alloc (.cells #[.string o, .string x, .slice kp KL kc, .slice wp WL wc, .slice pp PL pc, .slice ap AL ac, .slice rp RL rc] 49) = v := ⟨_, rfl⟩
    have HV := Lib.hid (show Below w.heap.size w v by rw [← hv]; exact HBX.out _)
    have HA := Lib.hid (show ∀ W, Below v.heap.size v W → _ from by rw [← hv]; exact HA.out)
    rw [hv]
    clear hv
    refine (HH.out.rd _ HV.out).mono ?_
    rintro e w1 ⟨rfl, hb⟩
    have HQ1 := Lib.hid hb
    obtain ⟨n0, n1, n2, n3, n4, n5, n6⟩ := HA.out w1 HQ1.out
    clear hb
    go_wp2_with fail
    go_ret
    exact ⟨ret_bool rfl, HV.out.trans (HQ1.out.mono HV.out.size)⟩
  | true =>
    cases EP with
    | false =>
      replace hP : (0 : Int) < (PL : Int) := of_decide_eq_true hP
      go_enter Tryd.func16, Tryd.ntmps16
      go_wp2_with fail
      obtain ⟨v, hv⟩ : ∃ v, w.alloc (.cells #[.string o, .string x, .slice kp KL kc, .slice wp WL wc, .slice pp PL pc, .slice ap AL ac, .slice rp RL rc] 49) = v := ⟨_, rfl⟩
      have HV := Lib.hid (show Below w.heap.size w v by rw [← hv]; exact HBX.out _)
      have HA := Lib.hid (show ∀ W, Below v.heap.size v W → _ from by rw [← hv]; exact HA.out)
      rw [hv]
      clear hv
      refine (HH.out.rd _ HV.out).mono ?_
      rintro e w1 ⟨rfl, hb⟩
      have HQ1 := Lib.hid hb
      obtain ⟨n0, n1, n2, n3, n4, n5, n6⟩ := HA.out w1 HQ1.out
      clear hb
      go_wp2_with fail
      go_ret
      exact ⟨ret_bool rfl, HV.out.trans (HQ1.out.mono HV.out.size)⟩
    | true =>
      replace hP : ¬ (0 : Int) < (PL : Int) := of_decide_eq_false hP
      cases EN with
      | false =>
        go_enter Tryd.func16, Tryd.ntmps16
        go_wp2_with fail
        obtain ⟨v, hv⟩ : ∃ v, w.alloc (.cells #[.string o, .string x, .slice kp KL kc, .slice wp WL wc, .slice pp PL pc, .slice ap AL ac, .slice rp RL rc] 49) = v := ⟨_, rfl⟩
        have HV := Lib.hid (show Below w.heap.size w v by rw [← hv]; exact HBX.out _)
        have HA := Lib.hid (show ∀ W, Below v.heap.size v W → _ from by rw [← hv]; exact HA.out)
        rw [hv]
        clear hv
        refine (HH.out.rd _ HV.out).mono ?_
        rintro e w1 ⟨rfl, hb⟩
        have HQ1 := Lib.hid hb
        obtain ⟨n0, n1, n2, n3, n4, n5, n6⟩ := HA.out w1 HQ1.out
        clear hb
        go_wp2_with fail
        go_ret
        exact ⟨ret_bool rfl, HV.out.trans (HQ1.out.mono HV.out.size)⟩
      | true =>
        obtain ⟨K, hK⟩ : ∃ K, ((KL : Int) == 0) = K := ⟨_, rfl⟩
        rw [hK]
        cases K with
        | false =>
          go_enter Tryd.func16, Tryd.ntmps16
          go_wp2_with fail
          obtain ⟨v, hv⟩ : ∃ v, w.alloc (.cells #[.string o, .string x, .slice kp KL kc, .slice wp WL wc, .slice pp PL pc, .slice ap AL ac, .slice rp RL rc] 49) = v := ⟨_, rfl⟩
          have HV := Lib.hid (show Below w.heap.size w v by rw [← hv]; exact HBX.out _)
          have HA := Lib.hid (show ∀ W, Below v.heap.size v W → _ from by rw [← hv]; exact HA.out)
          rw [hv]
          clear hv
          refine (HH.out.rd _ HV.out).mono ?_
          rintro e w1 ⟨rfl, hb⟩
          have HQ1 := Lib.hid hb
          obtain ⟨n0, n1, n2, n3, n4, n5, n6⟩ := HA.out w1 HQ1.out
          clear hb
          go_wp2_with fail
          go_ret
          exact ⟨ret_bool rfl, HV.out.trans (HQ1.out.mono HV.out.size)⟩
        | true =>
          have HZ := Lib.hid (show PL = 0 by omega)
          go_enter Tryd.func16, Tryd.ntmps16
          go_wp2_with fail
          obtain ⟨v, hv⟩ : ∃ v, w.alloc (.cells #[.string o, .string x, .slice kp KL kc, .slice wp WL wc, .slice pp PL pc, .slice ap AL ac, .slice rp RL rc] 49) = v := ⟨_, rfl⟩
          have HV := Lib.hid (show Below w.heap.size w v by rw [← hv]; exact HBX.out _)
          have HA := Lib.hid (show ∀ W, Below v.heap.size v W → _ from by rw [← hv]; exact HA.out)
          rw [hv]
          clear hv
          refine (HH.out.rd _ HV.out).mono ?_
          rintro e w1 ⟨rfl, hb⟩
          have HQ1 := Lib.hid hb
          obtain ⟨n0, n1, n2, n3, n4, n5, n6⟩ := HA.out w1 HQ1.out
          clear hb
          go_wp2_with fail
          obtain rfl : PL = 0 := HZ.out
          refine (HH.out.cm _ (HV.out.trans (HQ1.out.mono HV.out.size))).mono ?_
          rintro e w2 ⟨rfl, hb⟩
          have HQ2 := Lib.hid (HQ1.out.trans (hb.mono HQ1.out.size))
          obtain ⟨n0, n1, n2, n3, n4, n5, n6⟩ := HA.out w2 HQ2.out
          clear hb
          go_wp2_with fail
          go_ret
          exact ⟨ret_bool rfl, HV.out.trans (HQ2.out.mono HV.out.size)⟩
set_option maxHeartbeats 16000000 in
set_option maxRecDepth 100000 in
theorem rone_seq {w : World} {o x : ByteArray} {kp wp pp ap rp : Option Addr} {KL WL PL AL RL kc wc pc ac rc : Nat} {RD CM N RS WA PT EA EP EN EW : Bool} (ho : o.toList = [115, 101, 113]) (h : OneC w o x kp wp pp ap rp KL WL PL AL RL kc wc pc ac rc RD CM N RS WA PT)
    (hA : decide ((0 : Int) < (AL : Int)) = !EA) (hP : decide ((0 : Int) < (PL : Int)) = !EP) (hW : decide ((0 : Int) < (WL : Int)) = !EW) (hN : x.toList.isEmpty = EN) :
    Calls Tryd.prog 16 #[.agg #[.string o, .string x, .slice kp KL kc, .slice wp WL wc, .slice pp PL pc, .slice ap AL ac, .slice rp RL rc]] w fun e w' => e = .returned (.bool (RD && (EA && (EP && (EN && (EW && decide ((2 : Int) ≤ (KL : Int)))))))) ∧ Below w.heap.size w w' := by
  have q0 : (o.toList == [99, 109, 100]) = false := by rw [ho]; decide
  have q1 : (o.toList == [115, 101, 113]) = true := by rw [ho]; decide
  have q2 : (o.toList == [97, 110, 100]) = false := by rw [ho]; decide
  have q3 : (o.toList == [111, 114]) = false := by rw [ho]; decide
  have q4 : (o.toList == [110, 111, 116]) = false := by rw [ho]; decide
  have q5 : (o.toList == [112, 105, 112, 101]) = false := by rw [ho]; decide
  have q6 : (o.toList == [105, 102]) = false := by rw [ho]; decide
  have q7 : (o.toList == [119, 104, 105, 108, 101]) = false := by rw [ho]; decide
  have q8 : (o.toList == [117, 110, 116, 105, 108]) = false := by rw [ho]; decide
  have q9 : (o.toList == [102, 111, 114]) = false := by rw [ho]; decide
  have q10 : (o.toList == [99, 97, 115, 101]) = false := by rw [ho]; decide
  have q11 : (o.toList == [102, 117, 110]) = false := by rw [ho]; decide
  have q12 : (o.toList == [103, 114, 111, 117, 112]) = false := by rw [ho]; decide
  have q13 : (o.toList == [115, 117, 98]) = false := by rw [ho]; decide
  have HH := Lib.hid h
  have HA := Lib.hid (node_all w o x (.slice kp KL kc) (.slice wp WL wc) (.slice pp PL pc) (.slice ap AL ac) (.slice rp RL rc) 49)
  have HBX := Lib.hid (fun o => below_one w o)
  clear h ho
  cases RD with
  | false =>
    go_enter Tryd.func16, Tryd.ntmps16
    go_wp2_with fail
    obtain ⟨v, hv⟩ : ∃ v, w.alloc (.cells #[.string o, .string x, .slice kp KL kc, .slice wp WL wc, .slice pp PL pc, .slice ap AL ac, .slice rp RL rc] 49) = v := ⟨_, rfl⟩
    have HV := Lib.hid (show Below w.heap.size w v by rw [← hv]; exact HBX.out _)
    have HA := Lib.hid (show ∀ W, Below v.heap.size v W → _ from by rw [← hv]; exact HA.out)
    rw [hv]
    clear hv
    refine (HH.out.rd _ HV.out).mono ?_
    rintro e w1 ⟨rfl, hb⟩
    have HQ1 := Lib.hid hb
    obtain ⟨n0, n1, n2, n3, n4, n5, n6⟩ := HA.out w1 HQ1.out
    clear hb
    go_wp2_with fail
    go_ret
    exact ⟨ret_bool rfl, HV.out.trans (HQ1.out.mono HV.out.size)⟩
  | true =>
    cases EA with
    | false =>
      replace hA : (0 : Int) < (AL : Int) := of_decide_eq_true hA
      go_enter Tryd.func16, Tryd.ntmps16
      go_wp2_with fail
      obtain ⟨v, hv⟩ : ∃ v, w.alloc (.cells #[.string o, .string x, .slice kp KL kc, .slice wp WL wc, .slice pp PL pc, .slice ap AL ac, .slice rp RL rc] 49) = v := ⟨_, rfl⟩
      have HV := Lib.hid (show Below w.heap.size w v by rw [← hv]; exact HBX.out _)
      have HA := Lib.hid (show ∀ W, Below v.heap.size v W → _ from by rw [← hv]; exact HA.out)
      rw [hv]
      clear hv
      refine (HH.out.rd _ HV.out).mono ?_
      rintro e w1 ⟨rfl, hb⟩
      have HQ1 := Lib.hid hb
      obtain ⟨n0, n1, n2, n3, n4, n5, n6⟩ := HA.out w1 HQ1.out
      clear hb
      go_wp2_with fail
      go_ret
      exact ⟨ret_bool rfl, HV.out.trans (HQ1.out.mono HV.out.size)⟩
    | true =>
      replace hA : ¬ (0 : Int) < (AL : Int) := of_decide_eq_false hA
      cases EP with
      | false =>
        replace hP : (0 : Int) < (PL : Int) := of_decide_eq_true hP
        go_enter Tryd.func16, Tryd.ntmps16
        go_wp2_with fail
        obtain ⟨v, hv⟩ : ∃ v, w.alloc (.cells #[.string o, .string x, .slice kp KL kc, .slice wp WL wc, .slice pp PL pc, .slice ap AL ac, .slice rp RL rc] 49) = v := ⟨_, rfl⟩
        have HV := Lib.hid (show Below w.heap.size w v by rw [← hv]; exact HBX.out _)
        have HA := Lib.hid (show ∀ W, Below v.heap.size v W → _ from by rw [← hv]; exact HA.out)
        rw [hv]
        clear hv
        refine (HH.out.rd _ HV.out).mono ?_
        rintro e w1 ⟨rfl, hb⟩
        have HQ1 := Lib.hid hb
        obtain ⟨n0, n1, n2, n3, n4, n5, n6⟩ := HA.out w1 HQ1.out
        clear hb
        go_wp2_with fail
        go_ret
        exact ⟨ret_bool rfl, HV.out.trans (HQ1.out.mono HV.out.size)⟩
      | true =>
        replace hP : ¬ (0 : Int) < (PL : Int) := of_decide_eq_false hP
        cases EN with
        | false =>
          go_enter Tryd.func16, Tryd.ntmps16
          go_wp2_with fail
          obtain ⟨v, hv⟩ : ∃ v, w.alloc (.cells #[.string o, .string x, .slice kp KL kc, .slice wp WL wc, .slice pp PL pc, .slice ap AL ac, .slice rp RL rc] 49) = v := ⟨_, rfl⟩
          have HV := Lib.hid (show Below w.heap.size w v by rw [← hv]; exact HBX.out _)
          have HA := Lib.hid (show ∀ W, Below v.heap.size v W → _ from by rw [← hv]; exact HA.out)
          rw [hv]
          clear hv
          refine (HH.out.rd _ HV.out).mono ?_
          rintro e w1 ⟨rfl, hb⟩
          have HQ1 := Lib.hid hb
          obtain ⟨n0, n1, n2, n3, n4, n5, n6⟩ := HA.out w1 HQ1.out
          clear hb
          go_wp2_with fail
          go_ret
          exact ⟨ret_bool rfl, HV.out.trans (HQ1.out.mono HV.out.size)⟩
        | true =>
          cases EW with
          | false =>
            replace hW : (0 : Int) < (WL : Int) := of_decide_eq_true hW
            go_enter Tryd.func16, Tryd.ntmps16
            go_wp2_with fail
            obtain ⟨v, hv⟩ : ∃ v, w.alloc (.cells #[.string o, .string x, .slice kp KL kc, .slice wp WL wc, .slice pp PL pc, .slice ap AL ac, .slice rp RL rc] 49) = v := ⟨_, rfl⟩
            have HV := Lib.hid (show Below w.heap.size w v by rw [← hv]; exact HBX.out _)
            have HA := Lib.hid (show ∀ W, Below v.heap.size v W → _ from by rw [← hv]; exact HA.out)
            rw [hv]
            clear hv
            refine (HH.out.rd _ HV.out).mono ?_
            rintro e w1 ⟨rfl, hb⟩
            have HQ1 := Lib.hid hb
            obtain ⟨n0, n1, n2, n3, n4, n5, n6⟩ := HA.out w1 HQ1.out
            clear hb
            go_wp2_with fail
            go_ret
            exact ⟨ret_bool rfl, HV.out.trans (HQ1.out.mono HV.out.size)⟩
          | true =>
            replace hW : ¬ (0 : Int) < (WL : Int) := of_decide_eq_false hW
            by_cases hk : (2 : Int) ≤ (KL : Int)
            · rw [decide_eq_true hk]
              go_enter Tryd.func16, Tryd.ntmps16
              go_wp2_with fail
              obtain ⟨v, hv⟩ : ∃ v, w.alloc (.cells #[.string o, .string x, .slice kp KL kc, .slice wp WL wc, .slice pp PL pc, .slice ap AL ac, .slice rp RL rc] 49) = v := ⟨_, rfl⟩
              have HV := Lib.hid (show Below w.heap.size w v by rw [← hv]; exact HBX.out _)
              have HA := Lib.hid (show ∀ W, Below v.heap.size v W → _ from by rw [← hv]; exact HA.out)
              rw [hv]
              clear hv
              refine (HH.out.rd _ HV.out).mono ?_
              rintro e w1 ⟨rfl, hb⟩
              have HQ1 := Lib.hid hb
              obtain ⟨n0, n1, n2, n3, n4, n5, n6⟩ := HA.out w1 HQ1.out
              clear hb
              go_wp2_with fail
              go_ret
              exact ⟨ret_bool (by first | rfl | (simp; omega)), HV.out.trans (HQ1.out.mono HV.out.size)⟩
            · rw [decide_eq_false hk]
              go_enter Tryd.func16, Tryd.ntmps16
              go_wp2_with fail
              obtain ⟨v, hv⟩ : ∃ v, w.alloc (.cells #[.string o, .string x, .slice kp KL kc, .slice wp WL wc, .slice pp PL pc, .slice ap AL ac, .slice rp RL rc] 49) = v := ⟨_, rfl⟩
              have HV := Lib.hid (show Below w.heap.size w v by rw [← hv]; exact HBX.out _)
              have HA := Lib.hid (show ∀ W, Below v.heap.size v W → _ from by rw [← hv]; exact HA.out)
              rw [hv]
              clear hv
              refine (HH.out.rd _ HV.out).mono ?_
              rintro e w1 ⟨rfl, hb⟩
              have HQ1 := Lib.hid hb
              obtain ⟨n0, n1, n2, n3, n4, n5, n6⟩ := HA.out w1 HQ1.out
              clear hb
              go_wp2_with fail
              go_ret
              exact ⟨ret_bool (by first | rfl | (simp; omega)), HV.out.trans (HQ1.out.mono HV.out.size)⟩
set_option maxHeartbeats 16000000 in
set_option maxRecDepth 100000 in
theorem rone_pipe {w : World} {o x : ByteArray} {kp wp pp ap rp : Option Addr} {KL WL PL AL RL kc wc pc ac rc : Nat} {RD CM N RS WA PT EA EP EN EW : Bool} (ho : o.toList = [112, 105, 112, 101]) (h : OneC w o x kp wp pp ap rp KL WL PL AL RL kc wc pc ac rc RD CM N RS WA PT)
    (hA : decide ((0 : Int) < (AL : Int)) = !EA) (hP : decide ((0 : Int) < (PL : Int)) = !EP) (hW : decide ((0 : Int) < (WL : Int)) = !EW) (hN : x.toList.isEmpty = EN) :
    Calls Tryd.prog 16 #[.agg #[.string o, .string x, .slice kp KL kc, .slice wp WL wc, .slice pp PL pc, .slice ap AL ac, .slice rp RL rc]] w fun e w' => e = .returned (.bool (RD && (EA && (EP && (EN && (EW && decide ((2 : Int) ≤ (KL : Int)))))))) ∧ Below w.heap.size w w' := by
  have q0 : (o.toList == [99, 109, 100]) = false := by rw [ho]; decide
  have q1 : (o.toList == [115, 101, 113]) = false := by rw [ho]; decide
  have q2 : (o.toList == [97, 110, 100]) = false := by rw [ho]; decide
  have q3 : (o.toList == [111, 114]) = false := by rw [ho]; decide
  have q4 : (o.toList == [110, 111, 116]) = false := by rw [ho]; decide
  have q5 : (o.toList == [112, 105, 112, 101]) = true := by rw [ho]; decide
  have q6 : (o.toList == [105, 102]) = false := by rw [ho]; decide
  have q7 : (o.toList == [119, 104, 105, 108, 101]) = false := by rw [ho]; decide
  have q8 : (o.toList == [117, 110, 116, 105, 108]) = false := by rw [ho]; decide
  have q9 : (o.toList == [102, 111, 114]) = false := by rw [ho]; decide
  have q10 : (o.toList == [99, 97, 115, 101]) = false := by rw [ho]; decide
  have q11 : (o.toList == [102, 117, 110]) = false := by rw [ho]; decide
  have q12 : (o.toList == [103, 114, 111, 117, 112]) = false := by rw [ho]; decide
  have q13 : (o.toList == [115, 117, 98]) = false := by rw [ho]; decide
  have HH := Lib.hid h
  have HA := Lib.hid (node_all w o x (.slice kp KL kc) (.slice wp WL wc) (.slice pp PL pc) (.slice ap AL ac) (.slice rp RL rc) 49)
  have HBX := Lib.hid (fun o => below_one w o)
  clear h ho
  cases RD with
  | false =>
    go_enter Tryd.func16, Tryd.ntmps16
    go_wp2_with fail
    obtain ⟨v, hv⟩ : ∃ v, w.alloc (.cells #[.string o, .string x, .slice kp KL kc, .slice wp WL wc, .slice pp PL pc, .slice ap AL ac, .slice rp RL rc] 49) = v := ⟨_, rfl⟩
    have HV := Lib.hid (show Below w.heap.size w v by rw [← hv]; exact HBX.out _)
    have HA := Lib.hid (show ∀ W, Below v.heap.size v W → _ from by rw [← hv]; exact HA.out)
    rw [hv]
    clear hv
    refine (HH.out.rd _ HV.out).mono ?_
    rintro e w1 ⟨rfl, hb⟩
    have HQ1 := Lib.hid hb
    obtain ⟨n0, n1, n2, n3, n4, n5, n6⟩ := HA.out w1 HQ1.out
    clear hb
    go_wp2_with fail
    go_ret
    exact ⟨ret_bool rfl, HV.out.trans (HQ1.out.mono HV.out.size)⟩
  | true =>
    cases EA with
    | false =>
      replace hA : (0 : Int) < (AL : Int) := of_decide_eq_true hA
      go_enter Tryd.func16, Tryd.ntmps16
      go_wp2_with fail
      obtain ⟨v, hv⟩ : ∃ v, w.alloc (.cells #[.string o, .string x, .slice kp KL kc, .slice wp WL wc, .slice pp PL pc, .slice ap AL ac, .slice rp RL rc] 49) = v := ⟨_, rfl⟩
      have HV := Lib.hid (show Below w.heap.size w v by rw [← hv]; exact HBX.out _)
      have HA := Lib.hid (show ∀ W, Below v.heap.size v W → _ from by rw [← hv]; exact HA.out)
      rw [hv]
      clear hv
      refine (HH.out.rd _ HV.out).mono ?_
      rintro e w1 ⟨rfl, hb⟩
      have HQ1 := Lib.hid hb
      obtain ⟨n0, n1, n2, n3, n4, n5, n6⟩ := HA.out w1 HQ1.out
      clear hb
      go_wp2_with fail
      go_ret
      exact ⟨ret_bool rfl, HV.out.trans (HQ1.out.mono HV.out.size)⟩
    | true =>
      replace hA : ¬ (0 : Int) < (AL : Int) := of_decide_eq_false hA
      cases EP with
      | false =>
        replace hP : (0 : Int) < (PL : Int) := of_decide_eq_true hP
        go_enter Tryd.func16, Tryd.ntmps16
        go_wp2_with fail
        obtain ⟨v, hv⟩ : ∃ v, w.alloc (.cells #[.string o, .string x, .slice kp KL kc, .slice wp WL wc, .slice pp PL pc, .slice ap AL ac, .slice rp RL rc] 49) = v := ⟨_, rfl⟩
        have HV := Lib.hid (show Below w.heap.size w v by rw [← hv]; exact HBX.out _)
        have HA := Lib.hid (show ∀ W, Below v.heap.size v W → _ from by rw [← hv]; exact HA.out)
        rw [hv]
        clear hv
        refine (HH.out.rd _ HV.out).mono ?_
        rintro e w1 ⟨rfl, hb⟩
        have HQ1 := Lib.hid hb
        obtain ⟨n0, n1, n2, n3, n4, n5, n6⟩ := HA.out w1 HQ1.out
        clear hb
        go_wp2_with fail
        go_ret
        exact ⟨ret_bool rfl, HV.out.trans (HQ1.out.mono HV.out.size)⟩
      | true =>
        replace hP : ¬ (0 : Int) < (PL : Int) := of_decide_eq_false hP
        cases EN with
        | false =>
          go_enter Tryd.func16, Tryd.ntmps16
          go_wp2_with fail
          obtain ⟨v, hv⟩ : ∃ v, w.alloc (.cells #[.string o, .string x, .slice kp KL kc, .slice wp WL wc, .slice pp PL pc, .slice ap AL ac, .slice rp RL rc] 49) = v := ⟨_, rfl⟩
          have HV := Lib.hid (show Below w.heap.size w v by rw [← hv]; exact HBX.out _)
          have HA := Lib.hid (show ∀ W, Below v.heap.size v W → _ from by rw [← hv]; exact HA.out)
          rw [hv]
          clear hv
          refine (HH.out.rd _ HV.out).mono ?_
          rintro e w1 ⟨rfl, hb⟩
          have HQ1 := Lib.hid hb
          obtain ⟨n0, n1, n2, n3, n4, n5, n6⟩ := HA.out w1 HQ1.out
          clear hb
          go_wp2_with fail
          go_ret
          exact ⟨ret_bool rfl, HV.out.trans (HQ1.out.mono HV.out.size)⟩
        | true =>
          cases EW with
          | false =>
            replace hW : (0 : Int) < (WL : Int) := of_decide_eq_true hW
            go_enter Tryd.func16, Tryd.ntmps16
            go_wp2_with fail
            obtain ⟨v, hv⟩ : ∃ v, w.alloc (.cells #[.string o, .string x, .slice kp KL kc, .slice wp WL wc, .slice pp PL pc, .slice ap AL ac, .slice rp RL rc] 49) = v := ⟨_, rfl⟩
            have HV := Lib.hid (show Below w.heap.size w v by rw [← hv]; exact HBX.out _)
            have HA := Lib.hid (show ∀ W, Below v.heap.size v W → _ from by rw [← hv]; exact HA.out)
            rw [hv]
            clear hv
            refine (HH.out.rd _ HV.out).mono ?_
            rintro e w1 ⟨rfl, hb⟩
            have HQ1 := Lib.hid hb
            obtain ⟨n0, n1, n2, n3, n4, n5, n6⟩ := HA.out w1 HQ1.out
            clear hb
            go_wp2_with fail
            go_ret
            exact ⟨ret_bool rfl, HV.out.trans (HQ1.out.mono HV.out.size)⟩
          | true =>
            replace hW : ¬ (0 : Int) < (WL : Int) := of_decide_eq_false hW
            by_cases hk : (2 : Int) ≤ (KL : Int)
            · rw [decide_eq_true hk]
              go_enter Tryd.func16, Tryd.ntmps16
              go_wp2_with fail
              obtain ⟨v, hv⟩ : ∃ v, w.alloc (.cells #[.string o, .string x, .slice kp KL kc, .slice wp WL wc, .slice pp PL pc, .slice ap AL ac, .slice rp RL rc] 49) = v := ⟨_, rfl⟩
              have HV := Lib.hid (show Below w.heap.size w v by rw [← hv]; exact HBX.out _)
              have HA := Lib.hid (show ∀ W, Below v.heap.size v W → _ from by rw [← hv]; exact HA.out)
              rw [hv]
              clear hv
              refine (HH.out.rd _ HV.out).mono ?_
              rintro e w1 ⟨rfl, hb⟩
              have HQ1 := Lib.hid hb
              obtain ⟨n0, n1, n2, n3, n4, n5, n6⟩ := HA.out w1 HQ1.out
              clear hb
              go_wp2_with fail
              go_ret
              exact ⟨ret_bool (by first | rfl | (simp; omega)), HV.out.trans (HQ1.out.mono HV.out.size)⟩
            · rw [decide_eq_false hk]
              go_enter Tryd.func16, Tryd.ntmps16
              go_wp2_with fail
              obtain ⟨v, hv⟩ : ∃ v, w.alloc (.cells #[.string o, .string x, .slice kp KL kc, .slice wp WL wc, .slice pp PL pc, .slice ap AL ac, .slice rp RL rc] 49) = v := ⟨_, rfl⟩
              have HV := Lib.hid (show Below w.heap.size w v by rw [← hv]; exact HBX.out _)
              have HA := Lib.hid (show ∀ W, Below v.heap.size v W → _ from by rw [← hv]; exact HA.out)
              rw [hv]
              clear hv
              refine (HH.out.rd _ HV.out).mono ?_
              rintro e w1 ⟨rfl, hb⟩
              have HQ1 := Lib.hid hb
              obtain ⟨n0, n1, n2, n3, n4, n5, n6⟩ := HA.out w1 HQ1.out
              clear hb
              go_wp2_with fail
              go_ret
              exact ⟨ret_bool (by first | rfl | (simp; omega)), HV.out.trans (HQ1.out.mono HV.out.size)⟩
set_option maxHeartbeats 16000000 in
set_option maxRecDepth 100000 in
theorem rone_and {w : World} {o x : ByteArray} {kp wp pp ap rp : Option Addr} {KL WL PL AL RL kc wc pc ac rc : Nat} {RD CM N RS WA PT EA EP EN EW : Bool} (ho : o.toList = [97, 110, 100]) (h : OneC w o x kp wp pp ap rp KL WL PL AL RL kc wc pc ac rc RD CM N RS WA PT)
    (hA : decide ((0 : Int) < (AL : Int)) = !EA) (hP : decide ((0 : Int) < (PL : Int)) = !EP) (hW : decide ((0 : Int) < (WL : Int)) = !EW) (hN : x.toList.isEmpty = EN) :
    Calls Tryd.prog 16 #[.agg #[.string o, .string x, .slice kp KL kc, .slice wp WL wc, .slice pp PL pc, .slice ap AL ac, .slice rp RL rc]] w fun e w' => e = .returned (.bool (RD && (EA && (EP && (EN && (EW && ((KL : Int) == 2))))))) ∧ Below w.heap.size w w' := by
  have q0 : (o.toList == [99, 109, 100]) = false := by rw [ho]; decide
  have q1 : (o.toList == [115, 101, 113]) = false := by rw [ho]; decide
  have q2 : (o.toList == [97, 110, 100]) = true := by rw [ho]; decide
  have q3 : (o.toList == [111, 114]) = false := by rw [ho]; decide
  have q4 : (o.toList == [110, 111, 116]) = false := by rw [ho]; decide
  have q5 : (o.toList == [112, 105, 112, 101]) = false := by rw [ho]; decide
  have q6 : (o.toList == [105, 102]) = false := by rw [ho]; decide
  have q7 : (o.toList == [119, 104, 105, 108, 101]) = false := by rw [ho]; decide
  have q8 : (o.toList == [117, 110, 116, 105, 108]) = false := by rw [ho]; decide
  have q9 : (o.toList == [102, 111, 114]) = false := by rw [ho]; decide
  have q10 : (o.toList == [99, 97, 115, 101]) = false := by rw [ho]; decide
  have q11 : (o.toList == [102, 117, 110]) = false := by rw [ho]; decide
  have q12 : (o.toList == [103, 114, 111, 117, 112]) = false := by rw [ho]; decide
  have q13 : (o.toList == [115, 117, 98]) = false := by rw [ho]; decide
  have HH := Lib.hid h
  have HA := Lib.hid (node_all w o x (.slice kp KL kc) (.slice wp WL wc) (.slice pp PL pc) (.slice ap AL ac) (.slice rp RL rc) 49)
  have HBX := Lib.hid (fun o => below_one w o)
  clear h ho
  cases RD with
  | false =>
    go_enter Tryd.func16, Tryd.ntmps16
    go_wp2_with fail
    obtain ⟨v, hv⟩ : ∃ v, w.alloc (.cells #[.string o, .string x, .slice kp KL kc, .slice wp WL wc, .slice pp PL pc, .slice ap AL ac, .slice rp RL rc] 49) = v := ⟨_, rfl⟩
    have HV := Lib.hid (show Below w.heap.size w v by rw [← hv]; exact HBX.out _)
    have HA := Lib.hid (show ∀ W, Below v.heap.size v W → _ from by rw [← hv]; exact HA.out)
    rw [hv]
    clear hv
    refine (HH.out.rd _ HV.out).mono ?_
    rintro e w1 ⟨rfl, hb⟩
    have HQ1 := Lib.hid hb
    obtain ⟨n0, n1, n2, n3, n4, n5, n6⟩ := HA.out w1 HQ1.out
    clear hb
    go_wp2_with fail
    go_ret
    exact ⟨ret_bool rfl, HV.out.trans (HQ1.out.mono HV.out.size)⟩
  | true =>
    cases EA with
    | false =>
      replace hA : (0 : Int) < (AL : Int) := of_decide_eq_true hA
      go_enter Tryd.func16, Tryd.ntmps16
      go_wp2_with fail
      obtain ⟨v, hv⟩ : ∃ v, w.alloc (.cells #[.string o, .string x, .slice kp KL kc, .slice wp WL wc, .slice pp PL pc, .slice ap AL ac, .slice rp RL rc] 49) = v := ⟨_, rfl⟩
      have HV := Lib.hid (show Below w.heap.size w v by rw [← hv]; exact HBX.out _)
      have HA := Lib.hid (show ∀ W, Below v.heap.size v W → _ from by rw [← hv]; exact HA.out)
      rw [hv]
      clear hv
      refine (HH.out.rd _ HV.out).mono ?_
      rintro e w1 ⟨rfl, hb⟩
      have HQ1 := Lib.hid hb
      obtain ⟨n0, n1, n2, n3, n4, n5, n6⟩ := HA.out w1 HQ1.out
      clear hb
      go_wp2_with fail
      go_ret
      exact ⟨ret_bool rfl, HV.out.trans (HQ1.out.mono HV.out.size)⟩
    | true =>
      replace hA : ¬ (0 : Int) < (AL : Int) := of_decide_eq_false hA
      cases EP with
      | false =>
        replace hP : (0 : Int) < (PL : Int) := of_decide_eq_true hP
        go_enter Tryd.func16, Tryd.ntmps16
        go_wp2_with fail
        obtain ⟨v, hv⟩ : ∃ v, w.alloc (.cells #[.string o, .string x, .slice kp KL kc, .slice wp WL wc, .slice pp PL pc, .slice ap AL ac, .slice rp RL rc] 49) = v := ⟨_, rfl⟩
        have HV := Lib.hid (show Below w.heap.size w v by rw [← hv]; exact HBX.out _)
        have HA := Lib.hid (show ∀ W, Below v.heap.size v W → _ from by rw [← hv]; exact HA.out)
        rw [hv]
        clear hv
        refine (HH.out.rd _ HV.out).mono ?_
        rintro e w1 ⟨rfl, hb⟩
        have HQ1 := Lib.hid hb
        obtain ⟨n0, n1, n2, n3, n4, n5, n6⟩ := HA.out w1 HQ1.out
        clear hb
        go_wp2_with fail
        go_ret
        exact ⟨ret_bool rfl, HV.out.trans (HQ1.out.mono HV.out.size)⟩
      | true =>
        replace hP : ¬ (0 : Int) < (PL : Int) := of_decide_eq_false hP
        cases EN with
        | false =>
          go_enter Tryd.func16, Tryd.ntmps16
          go_wp2_with fail
          obtain ⟨v, hv⟩ : ∃ v, w.alloc (.cells #[.string o, .string x, .slice kp KL kc, .slice wp WL wc, .slice pp PL pc, .slice ap AL ac, .slice rp RL rc] 49) = v := ⟨_, rfl⟩
          have HV := Lib.hid (show Below w.heap.size w v by rw [← hv]; exact HBX.out _)
          have HA := Lib.hid (show ∀ W, Below v.heap.size v W → _ from by rw [← hv]; exact HA.out)
          rw [hv]
          clear hv
          refine (HH.out.rd _ HV.out).mono ?_
          rintro e w1 ⟨rfl, hb⟩
          have HQ1 := Lib.hid hb
          obtain ⟨n0, n1, n2, n3, n4, n5, n6⟩ := HA.out w1 HQ1.out
          clear hb
          go_wp2_with fail
          go_ret
          exact ⟨ret_bool rfl, HV.out.trans (HQ1.out.mono HV.out.size)⟩
        | true =>
          cases EW with
          | false =>
            replace hW : (0 : Int) < (WL : Int) := of_decide_eq_true hW
            go_enter Tryd.func16, Tryd.ntmps16
            go_wp2_with fail
            obtain ⟨v, hv⟩ : ∃ v, w.alloc (.cells #[.string o, .string x, .slice kp KL kc, .slice wp WL wc, .slice pp PL pc, .slice ap AL ac, .slice rp RL rc] 49) = v := ⟨_, rfl⟩
            have HV := Lib.hid (show Below w.heap.size w v by rw [← hv]; exact HBX.out _)
            have HA := Lib.hid (show ∀ W, Below v.heap.size v W → _ from by rw [← hv]; exact HA.out)
            rw [hv]
            clear hv
            refine (HH.out.rd _ HV.out).mono ?_
            rintro e w1 ⟨rfl, hb⟩
            have HQ1 := Lib.hid hb
            obtain ⟨n0, n1, n2, n3, n4, n5, n6⟩ := HA.out w1 HQ1.out
            clear hb
            go_wp2_with fail
            go_ret
            exact ⟨ret_bool rfl, HV.out.trans (HQ1.out.mono HV.out.size)⟩
          | true =>
            replace hW : ¬ (0 : Int) < (WL : Int) := of_decide_eq_false hW
            obtain ⟨K, hK⟩ : ∃ K, ((KL : Int) == 2) = K := ⟨_, rfl⟩
            rw [hK]
            go_enter Tryd.func16, Tryd.ntmps16
            go_wp2_with fail
            obtain ⟨v, hv⟩ : ∃ v, w.alloc (.cells #[.string o, .string x, .slice kp KL kc, .slice wp WL wc, .slice pp PL pc, .slice ap AL ac, .slice rp RL rc] 49) = v := ⟨_, rfl⟩
            have HV := Lib.hid (show Below w.heap.size w v by rw [← hv]; exact HBX.out _)
            have HA := Lib.hid (show ∀ W, Below v.heap.size v W → _ from by rw [← hv]; exact HA.out)
            rw [hv]
            clear hv
            refine (HH.out.rd _ HV.out).mono ?_
            rintro e w1 ⟨rfl, hb⟩
            have HQ1 := Lib.hid hb
            obtain ⟨n0, n1, n2, n3, n4, n5, n6⟩ := HA.out w1 HQ1.out
            clear hb
            go_wp2_with fail
            go_ret
            exact ⟨ret_bool rfl, HV.out.trans (HQ1.out.mono HV.out.size)⟩
end Go.Proofs.YtloaalapkmbgeaaDoor

namespace Go.Proofs.YtloaalapkmbgeaaDoor
open Go Go.RowKit GlyphMath LexMath TreeMath

set_option maxHeartbeats 16000000 in
set_option maxRecDepth 100000 in
theorem rone_or {w : World} {o x : ByteArray} {kp wp pp ap rp : Option Addr} {KL WL PL AL RL kc wc pc ac rc : Nat} {RD CM N RS WA PT EA EP EN EW : Bool} (ho : o.toList = [111, 114]) (h : OneC w o x kp wp pp ap rp KL WL PL AL RL kc wc pc ac rc RD CM N RS WA PT)
    (hA : decide ((0 : Int) < (AL : Int)) = !EA) (hP : decide ((0 : Int) < (PL : Int)) = !EP) (hW : decide ((0 : Int) < (WL : Int)) = !EW) (hN : x.toList.isEmpty = EN) :
    Calls Tryd.prog 16 #[.agg #[.string o, .string x, .slice kp KL kc, .slice wp WL wc, .slice pp PL pc, .slice ap AL ac, .slice rp RL rc]] w fun e w' => e = .returned (.bool (RD && (EA && (EP && (EN && (EW && ((KL : Int) == 2))))))) ∧ Below w.heap.size w w' := by
  have q0 : (o.toList == [99, 109, 100]) = false := by rw [ho]; decide
  have q1 : (o.toList == [115, 101, 113]) = false := by rw [ho]; decide
  have q2 : (o.toList == [97, 110, 100]) = false := by rw [ho]; decide
  have q3 : (o.toList == [111, 114]) = true := by rw [ho]; decide
  have q4 : (o.toList == [110, 111, 116]) = false := by rw [ho]; decide
  have q5 : (o.toList == [112, 105, 112, 101]) = false := by rw [ho]; decide
  have q6 : (o.toList == [105, 102]) = false := by rw [ho]; decide
  have q7 : (o.toList == [119, 104, 105, 108, 101]) = false := by rw [ho]; decide
  have q8 : (o.toList == [117, 110, 116, 105, 108]) = false := by rw [ho]; decide
  have q9 : (o.toList == [102, 111, 114]) = false := by rw [ho]; decide
  have q10 : (o.toList == [99, 97, 115, 101]) = false := by rw [ho]; decide
  have q11 : (o.toList == [102, 117, 110]) = false := by rw [ho]; decide
  have q12 : (o.toList == [103, 114, 111, 117, 112]) = false := by rw [ho]; decide
  have q13 : (o.toList == [115, 117, 98]) = false := by rw [ho]; decide
  have HH := Lib.hid h
  have HA := Lib.hid (node_all w o x (.slice kp KL kc) (.slice wp WL wc) (.slice pp PL pc) (.slice ap AL ac) (.slice rp RL rc) 49)
  have HBX := Lib.hid (fun o => below_one w o)
  clear h ho
  cases RD with
  | false =>
    go_enter Tryd.func16, Tryd.ntmps16
    go_wp2_with fail
    obtain ⟨v, hv⟩ : ∃ v, w.alloc (.cells #[.string o, .string x, .slice kp KL kc, .slice wp WL wc, .slice pp PL pc, .slice ap AL ac, .slice rp RL rc] 49) = v := ⟨_, rfl⟩
    have HV := Lib.hid (show Below w.heap.size w v by rw [← hv]; exact HBX.out _)
    have HA := Lib.hid (show ∀ W, Below v.heap.size v W → _ from by rw [← hv]; exact HA.out)
    rw [hv]
    clear hv
    refine (HH.out.rd _ HV.out).mono ?_
    rintro e w1 ⟨rfl, hb⟩
    have HQ1 := Lib.hid hb
    obtain ⟨n0, n1, n2, n3, n4, n5, n6⟩ := HA.out w1 HQ1.out
    clear hb
    go_wp2_with fail
    go_ret
    exact ⟨ret_bool rfl, HV.out.trans (HQ1.out.mono HV.out.size)⟩
  | true =>
    cases EA with
    | false =>
      replace hA : (0 : Int) < (AL : Int) := of_decide_eq_true hA
      go_enter Tryd.func16, Tryd.ntmps16
      go_wp2_with fail
      obtain ⟨v, hv⟩ : ∃ v, w.alloc (.cells #[.string o, .string x, .slice kp KL kc, .slice wp WL wc, .slice pp PL pc, .slice ap AL ac, .slice rp RL rc] 49) = v := ⟨_, rfl⟩
      have HV := Lib.hid (show Below w.heap.size w v by rw [← hv]; exact HBX.out _)
      have HA := Lib.hid (show ∀ W, Below v.heap.size v W → _ from by rw [← hv]; exact HA.out)
      rw [hv]
      clear hv
      refine (HH.out.rd _ HV.out).mono ?_
      rintro e w1 ⟨rfl, hb⟩
      have HQ1 := Lib.hid hb
      obtain ⟨n0, n1, n2, n3, n4, n5, n6⟩ := HA.out w1 HQ1.out
      clear hb
      go_wp2_with fail
      go_ret
      exact ⟨ret_bool rfl, HV.out.trans (HQ1.out.mono HV.out.size)⟩
    | true =>
      replace hA : ¬ (0 : Int) < (AL : Int) := of_decide_eq_false hA
      cases EP with
      | false =>
        replace hP : (0 : Int) < (PL : Int) := of_decide_eq_true hP
        go_enter Tryd.func16, Tryd.ntmps16
        go_wp2_with fail
        obtain ⟨v, hv⟩ : ∃ v, w.alloc (.cells #[.string o, .string x, .slice kp KL kc, .slice wp WL wc, .slice pp PL pc, .slice ap AL ac, .slice rp RL rc] 49) = v := ⟨_, rfl⟩
        have HV := Lib.hid (show Below w.heap.size w v by rw [← hv]; exact HBX.out _)
        have HA := Lib.hid (show ∀ W, Below v.heap.size v W → _ from by rw [← hv]; exact HA.out)
        rw [hv]
        clear hv
        refine (HH.out.rd _ HV.out).mono ?_
        rintro e w1 ⟨rfl, hb⟩
        have HQ1 := Lib.hid hb
        obtain ⟨n0, n1, n2, n3, n4, n5, n6⟩ := HA.out w1 HQ1.out
        clear hb
        go_wp2_with fail
        go_ret
        exact ⟨ret_bool rfl, HV.out.trans (HQ1.out.mono HV.out.size)⟩
      | true =>
        replace hP : ¬ (0 : Int) < (PL : Int) := of_decide_eq_false hP
        cases EN with
        | false =>
          go_enter Tryd.func16, Tryd.ntmps16
          go_wp2_with fail
          obtain ⟨v, hv⟩ : ∃ v, w.alloc (.cells #[.string o, .string x, .slice kp KL kc, .slice wp WL wc, .slice pp PL pc, .slice ap AL ac, .slice rp RL rc] 49) = v := ⟨_, rfl⟩
          have HV := Lib.hid (show Below w.heap.size w v by rw [← hv]; exact HBX.out _)
          have HA := Lib.hid (show ∀ W, Below v.heap.size v W → _ from by rw [← hv]; exact HA.out)
          rw [hv]
          clear hv
          refine (HH.out.rd _ HV.out).mono ?_
          rintro e w1 ⟨rfl, hb⟩
          have HQ1 := Lib.hid hb
          obtain ⟨n0, n1, n2, n3, n4, n5, n6⟩ := HA.out w1 HQ1.out
          clear hb
          go_wp2_with fail
          go_ret
          exact ⟨ret_bool rfl, HV.out.trans (HQ1.out.mono HV.out.size)⟩
        | true =>
          cases EW with
          | false =>
            replace hW : (0 : Int) < (WL : Int) := of_decide_eq_true hW
            go_enter Tryd.func16, Tryd.ntmps16
            go_wp2_with fail
            obtain ⟨v, hv⟩ : ∃ v, w.alloc (.cells #[.string o, .string x, .slice kp KL kc, .slice wp WL wc, .slice pp PL pc, .slice ap AL ac, .slice rp RL rc] 49) = v := ⟨_, rfl⟩
            have HV := Lib.hid (show Below w.heap.size w v by rw [← hv]; exact HBX.out _)
            have HA := Lib.hid (show ∀ W, Below v.heap.size v W → _ from by rw [← hv]; exact HA.out)
            rw [hv]
            clear hv
            refine (HH.out.rd _ HV.out).mono ?_
            rintro e w1 ⟨rfl, hb⟩
            have HQ1 := Lib.hid hb
            obtain ⟨n0, n1, n2, n3, n4, n5, n6⟩ := HA.out w1 HQ1.out
            clear hb
            go_wp2_with fail
            go_ret
            exact ⟨ret_bool rfl, HV.out.trans (HQ1.out.mono HV.out.size)⟩
          | true =>
            replace hW : ¬ (0 : Int) < (WL : Int) := of_decide_eq_false hW
            obtain ⟨K, hK⟩ : ∃ K, ((KL : Int) == 2) = K := ⟨_, rfl⟩
            rw [hK]
            go_enter Tryd.func16, Tryd.ntmps16
            go_wp2_with fail
            obtain ⟨v, hv⟩ : ∃ v, w.alloc (.cells #[.string o, .string x, .slice kp KL kc, .slice wp WL wc, .slice pp PL pc, .slice ap AL ac, .slice rp RL rc] 49) = v := ⟨_, rfl⟩
            have HV := Lib.hid (show Below w.heap.size w v by rw [← hv]; exact HBX.out _)
            have HA := Lib.hid (show ∀ W, Below v.heap.size v W → _ from by rw [← hv]; exact HA.out)
            rw [hv]
            clear hv
            refine (HH.out.rd _ HV.out).mono ?_
            rintro e w1 ⟨rfl, hb⟩
            have HQ1 := Lib.hid hb
            obtain ⟨n0, n1, n2, n3, n4, n5, n6⟩ := HA.out w1 HQ1.out
            clear hb
            go_wp2_with fail
            go_ret
            exact ⟨ret_bool rfl, HV.out.trans (HQ1.out.mono HV.out.size)⟩
set_option maxHeartbeats 16000000 in
set_option maxRecDepth 100000 in
theorem rone_not {w : World} {o x : ByteArray} {kp wp pp ap rp : Option Addr} {KL WL PL AL RL kc wc pc ac rc : Nat} {RD CM N RS WA PT EA EP EN EW : Bool} (ho : o.toList = [110, 111, 116]) (h : OneC w o x kp wp pp ap rp KL WL PL AL RL kc wc pc ac rc RD CM N RS WA PT)
    (hA : decide ((0 : Int) < (AL : Int)) = !EA) (hP : decide ((0 : Int) < (PL : Int)) = !EP) (hW : decide ((0 : Int) < (WL : Int)) = !EW) (hN : x.toList.isEmpty = EN) :
    Calls Tryd.prog 16 #[.agg #[.string o, .string x, .slice kp KL kc, .slice wp WL wc, .slice pp PL pc, .slice ap AL ac, .slice rp RL rc]] w fun e w' => e = .returned (.bool (RD && (EA && (EP && (EN && (EW && ((KL : Int) == 1))))))) ∧ Below w.heap.size w w' := by
  have q0 : (o.toList == [99, 109, 100]) = false := by rw [ho]; decide
  have q1 : (o.toList == [115, 101, 113]) = false := by rw [ho]; decide
  have q2 : (o.toList == [97, 110, 100]) = false := by rw [ho]; decide
  have q3 : (o.toList == [111, 114]) = false := by rw [ho]; decide
  have q4 : (o.toList == [110, 111, 116]) = true := by rw [ho]; decide
  have q5 : (o.toList == [112, 105, 112, 101]) = false := by rw [ho]; decide
  have q6 : (o.toList == [105, 102]) = false := by rw [ho]; decide
  have q7 : (o.toList == [119, 104, 105, 108, 101]) = false := by rw [ho]; decide
  have q8 : (o.toList == [117, 110, 116, 105, 108]) = false := by rw [ho]; decide
  have q9 : (o.toList == [102, 111, 114]) = false := by rw [ho]; decide
  have q10 : (o.toList == [99, 97, 115, 101]) = false := by rw [ho]; decide
  have q11 : (o.toList == [102, 117, 110]) = false := by rw [ho]; decide
  have q12 : (o.toList == [103, 114, 111, 117, 112]) = false := by rw [ho]; decide
  have q13 : (o.toList == [115, 117, 98]) = false := by rw [ho]; decide
  have HH := Lib.hid h
  have HA := Lib.hid (node_all w o x (.slice kp KL kc) (.slice wp WL wc) (.slice pp PL pc) (.slice ap AL ac) (.slice rp RL rc) 49)
  have HBX := Lib.hid (fun o => below_one w o)
  clear h ho
  cases RD with
  | false =>
    go_enter Tryd.func16, Tryd.ntmps16
    go_wp2_with fail
    obtain ⟨v, hv⟩ : ∃ v, w.alloc (.cells #[.string o, .string x, .slice kp KL kc, .slice wp WL wc, .slice pp PL pc, .slice ap AL ac, .slice rp RL rc] 49) = v := ⟨_, rfl⟩
    have HV := Lib.hid (show Below w.heap.size w v by rw [← hv]; exact HBX.out _)
    have HA := Lib.hid (show ∀ W, Below v.heap.size v W → _ from by rw [← hv]; exact HA.out)
    rw [hv]
    clear hv
    refine (HH.out.rd _ HV.out).mono ?_
    rintro e w1 ⟨rfl, hb⟩
    have HQ1 := Lib.hid hb
    obtain ⟨n0, n1, n2, n3, n4, n5, n6⟩ := HA.out w1 HQ1.out
    clear hb
    go_wp2_with fail
    go_ret
    exact ⟨ret_bool rfl, HV.out.trans (HQ1.out.mono HV.out.size)⟩
  | true =>
    cases EA with
    | false =>
      replace hA : (0 : Int) < (AL : Int) := of_decide_eq_true hA
      go_enter Tryd.func16, Tryd.ntmps16
      go_wp2_with fail
      obtain ⟨v, hv⟩ : ∃ v, w.alloc (.cells #[.string o, .string x, .slice kp KL kc, .slice wp WL wc, .slice pp PL pc, .slice ap AL ac, .slice rp RL rc] 49) = v := ⟨_, rfl⟩
      have HV := Lib.hid (show Below w.heap.size w v by rw [← hv]; exact HBX.out _)
      have HA := Lib.hid (show ∀ W, Below v.heap.size v W → _ from by rw [← hv]; exact HA.out)
      rw [hv]
      clear hv
      refine (HH.out.rd _ HV.out).mono ?_
      rintro e w1 ⟨rfl, hb⟩
      have HQ1 := Lib.hid hb
      obtain ⟨n0, n1, n2, n3, n4, n5, n6⟩ := HA.out w1 HQ1.out
      clear hb
      go_wp2_with fail
      go_ret
      exact ⟨ret_bool rfl, HV.out.trans (HQ1.out.mono HV.out.size)⟩
    | true =>
      replace hA : ¬ (0 : Int) < (AL : Int) := of_decide_eq_false hA
      cases EP with
      | false =>
        replace hP : (0 : Int) < (PL : Int) := of_decide_eq_true hP
        go_enter Tryd.func16, Tryd.ntmps16
        go_wp2_with fail
        obtain ⟨v, hv⟩ : ∃ v, w.alloc (.cells #[.string o, .string x, .slice kp KL kc, .slice wp WL wc, .slice pp PL pc, .slice ap AL ac, .slice rp RL rc] 49) = v := ⟨_, rfl⟩
        have HV := Lib.hid (show Below w.heap.size w v by rw [← hv]; exact HBX.out _)
        have HA := Lib.hid (show ∀ W, Below v.heap.size v W → _ from by rw [← hv]; exact HA.out)
        rw [hv]
        clear hv
        refine (HH.out.rd _ HV.out).mono ?_
        rintro e w1 ⟨rfl, hb⟩
        have HQ1 := Lib.hid hb
        obtain ⟨n0, n1, n2, n3, n4, n5, n6⟩ := HA.out w1 HQ1.out
        clear hb
        go_wp2_with fail
        go_ret
        exact ⟨ret_bool rfl, HV.out.trans (HQ1.out.mono HV.out.size)⟩
      | true =>
        replace hP : ¬ (0 : Int) < (PL : Int) := of_decide_eq_false hP
        cases EN with
        | false =>
          go_enter Tryd.func16, Tryd.ntmps16
          go_wp2_with fail
          obtain ⟨v, hv⟩ : ∃ v, w.alloc (.cells #[.string o, .string x, .slice kp KL kc, .slice wp WL wc, .slice pp PL pc, .slice ap AL ac, .slice rp RL rc] 49) = v := ⟨_, rfl⟩
          have HV := Lib.hid (show Below w.heap.size w v by rw [← hv]; exact HBX.out _)
          have HA := Lib.hid (show ∀ W, Below v.heap.size v W → _ from by rw [← hv]; exact HA.out)
          rw [hv]
          clear hv
          refine (HH.out.rd _ HV.out).mono ?_
          rintro e w1 ⟨rfl, hb⟩
          have HQ1 := Lib.hid hb
          obtain ⟨n0, n1, n2, n3, n4, n5, n6⟩ := HA.out w1 HQ1.out
          clear hb
          go_wp2_with fail
          go_ret
          exact ⟨ret_bool rfl, HV.out.trans (HQ1.out.mono HV.out.size)⟩
        | true =>
          cases EW with
          | false =>
            replace hW : (0 : Int) < (WL : Int) := of_decide_eq_true hW
            go_enter Tryd.func16, Tryd.ntmps16
            go_wp2_with fail
            obtain ⟨v, hv⟩ : ∃ v, w.alloc (.cells #[.string o, .string x, .slice kp KL kc, .slice wp WL wc, .slice pp PL pc, .slice ap AL ac, .slice rp RL rc] 49) = v := ⟨_, rfl⟩
            have HV := Lib.hid (show Below w.heap.size w v by rw [← hv]; exact HBX.out _)
            have HA := Lib.hid (show ∀ W, Below v.heap.size v W → _ from by rw [← hv]; exact HA.out)
            rw [hv]
            clear hv
            refine (HH.out.rd _ HV.out).mono ?_
            rintro e w1 ⟨rfl, hb⟩
            have HQ1 := Lib.hid hb
            obtain ⟨n0, n1, n2, n3, n4, n5, n6⟩ := HA.out w1 HQ1.out
            clear hb
            go_wp2_with fail
            go_ret
            exact ⟨ret_bool rfl, HV.out.trans (HQ1.out.mono HV.out.size)⟩
          | true =>
            replace hW : ¬ (0 : Int) < (WL : Int) := of_decide_eq_false hW
            obtain ⟨K, hK⟩ : ∃ K, ((KL : Int) == 1) = K := ⟨_, rfl⟩
            rw [hK]
            go_enter Tryd.func16, Tryd.ntmps16
            go_wp2_with fail
            obtain ⟨v, hv⟩ : ∃ v, w.alloc (.cells #[.string o, .string x, .slice kp KL kc, .slice wp WL wc, .slice pp PL pc, .slice ap AL ac, .slice rp RL rc] 49) = v := ⟨_, rfl⟩
            have HV := Lib.hid (show Below w.heap.size w v by rw [← hv]; exact HBX.out _)
            have HA := Lib.hid (show ∀ W, Below v.heap.size v W → _ from by rw [← hv]; exact HA.out)
            rw [hv]
            clear hv
            refine (HH.out.rd _ HV.out).mono ?_
            rintro e w1 ⟨rfl, hb⟩
            have HQ1 := Lib.hid hb
            obtain ⟨n0, n1, n2, n3, n4, n5, n6⟩ := HA.out w1 HQ1.out
            clear hb
            go_wp2_with fail
            go_ret
            exact ⟨ret_bool rfl, HV.out.trans (HQ1.out.mono HV.out.size)⟩
set_option maxHeartbeats 16000000 in
set_option maxRecDepth 100000 in
theorem rone_group {w : World} {o x : ByteArray} {kp wp pp ap rp : Option Addr} {KL WL PL AL RL kc wc pc ac rc : Nat} {RD CM N RS WA PT EA EP EN EW : Bool} (ho : o.toList = [103, 114, 111, 117, 112]) (h : OneC w o x kp wp pp ap rp KL WL PL AL RL kc wc pc ac rc RD CM N RS WA PT)
    (hA : decide ((0 : Int) < (AL : Int)) = !EA) (hP : decide ((0 : Int) < (PL : Int)) = !EP) (hW : decide ((0 : Int) < (WL : Int)) = !EW) (hN : x.toList.isEmpty = EN) :
    Calls Tryd.prog 16 #[.agg #[.string o, .string x, .slice kp KL kc, .slice wp WL wc, .slice pp PL pc, .slice ap AL ac, .slice rp RL rc]] w fun e w' => e = .returned (.bool (RD && (EA && (EP && (EN && (EW && ((KL : Int) == 1))))))) ∧ Below w.heap.size w w' := by
  have q0 : (o.toList == [99, 109, 100]) = false := by rw [ho]; decide
  have q1 : (o.toList == [115, 101, 113]) = false := by rw [ho]; decide
  have q2 : (o.toList == [97, 110, 100]) = false := by rw [ho]; decide
  have q3 : (o.toList == [111, 114]) = false := by rw [ho]; decide
  have q4 : (o.toList == [110, 111, 116]) = false := by rw [ho]; decide
  have q5 : (o.toList == [112, 105, 112, 101]) = false := by rw [ho]; decide
  have q6 : (o.toList == [105, 102]) = false := by rw [ho]; decide
  have q7 : (o.toList == [119, 104, 105, 108, 101]) = false := by rw [ho]; decide
  have q8 : (o.toList == [117, 110, 116, 105, 108]) = false := by rw [ho]; decide
  have q9 : (o.toList == [102, 111, 114]) = false := by rw [ho]; decide
  have q10 : (o.toList == [99, 97, 115, 101]) = false := by rw [ho]; decide
  have q11 : (o.toList == [102, 117, 110]) = false := by rw [ho]; decide
  have q12 : (o.toList == [103, 114, 111, 117, 112]) = true := by rw [ho]; decide
  have q13 : (o.toList == [115, 117, 98]) = false := by rw [ho]; decide
  have HH := Lib.hid h
  have HA := Lib.hid (node_all w o x (.slice kp KL kc) (.slice wp WL wc) (.slice pp PL pc) (.slice ap AL ac) (.slice rp RL rc) 49)
  have HBX := Lib.hid (fun o => below_one w o)
  clear h ho
  cases RD with
  | false =>
    go_enter Tryd.func16, Tryd.ntmps16
    go_wp2_with fail
    obtain ⟨v, hv⟩ : ∃ v, w.alloc (.cells #[.string o, .string x, .slice kp KL kc, .slice wp WL wc, .slice pp PL pc, .slice ap AL ac, .slice rp RL rc] 49) = v := ⟨_, rfl⟩
    have HV := Lib.hid (show Below w.heap.size w v by rw [← hv]; exact HBX.out _)
    have HA := Lib.hid (show ∀ W, Below v.heap.size v W → _ from by rw [← hv]; exact HA.out)
    rw [hv]
    clear hv
    refine (HH.out.rd _ HV.out).mono ?_
    rintro e w1 ⟨rfl, hb⟩
    have HQ1 := Lib.hid hb
    obtain ⟨n0, n1, n2, n3, n4, n5, n6⟩ := HA.out w1 HQ1.out
    clear hb
    go_wp2_with fail
    go_ret
    exact ⟨ret_bool rfl, HV.out.trans (HQ1.out.mono HV.out.size)⟩
  | true =>
    cases EA with
    | false =>
      replace hA : (0 : Int) < (AL : Int) := of_decide_eq_true hA
      go_enter Tryd.func16, Tryd.ntmps16
      go_wp2_with fail
      obtain ⟨v, hv⟩ : ∃ v, w.alloc (.cells #[.string o, .string x, .slice kp KL kc, .slice wp WL wc, .slice pp PL pc, .slice ap AL ac, .slice rp RL rc] 49) = v := ⟨_, rfl⟩
      have HV := Lib.hid (show Below w.heap.size w v by rw [← hv]; exact HBX.out _)
      have HA := Lib.hid (show ∀ W, Below v.heap.size v W → _ from by rw [← hv]; exact HA.out)
      rw [hv]
      clear hv
      refine (HH.out.rd _ HV.out).mono ?_
      rintro e w1 ⟨rfl, hb⟩
      have HQ1 := Lib.hid hb
      obtain ⟨n0, n1, n2, n3, n4, n5, n6⟩ := HA.out w1 HQ1.out
      clear hb
      go_wp2_with fail
      go_ret
      exact ⟨ret_bool rfl, HV.out.trans (HQ1.out.mono HV.out.size)⟩
    | true =>
      replace hA : ¬ (0 : Int) < (AL : Int) := of_decide_eq_false hA
      cases EP with
      | false =>
        replace hP : (0 : Int) < (PL : Int) := of_decide_eq_true hP
        go_enter Tryd.func16, Tryd.ntmps16
        go_wp2_with fail
        obtain ⟨v, hv⟩ : ∃ v, w.alloc (.cells #[.string o, .string x, .slice kp KL kc, .slice wp WL wc, .slice pp PL pc, .slice ap AL ac, .slice rp RL rc] 49) = v := ⟨_, rfl⟩
        have HV := Lib.hid (show Below w.heap.size w v by rw [← hv]; exact HBX.out _)
        have HA := Lib.hid (show ∀ W, Below v.heap.size v W → _ from by rw [← hv]; exact HA.out)
        rw [hv]
        clear hv
        refine (HH.out.rd _ HV.out).mono ?_
        rintro e w1 ⟨rfl, hb⟩
        have HQ1 := Lib.hid hb
        obtain ⟨n0, n1, n2, n3, n4, n5, n6⟩ := HA.out w1 HQ1.out
        clear hb
        go_wp2_with fail
        go_ret
        exact ⟨ret_bool rfl, HV.out.trans (HQ1.out.mono HV.out.size)⟩
      | true =>
        replace hP : ¬ (0 : Int) < (PL : Int) := of_decide_eq_false hP
        cases EN with
        | false =>
          go_enter Tryd.func16, Tryd.ntmps16
          go_wp2_with fail
          obtain ⟨v, hv⟩ : ∃ v, w.alloc (.cells #[.string o, .string x, .slice kp KL kc, .slice wp WL wc, .slice pp PL pc, .slice ap AL ac, .slice rp RL rc] 49) = v := ⟨_, rfl⟩
          have HV := Lib.hid (show Below w.heap.size w v by rw [← hv]; exact HBX.out _)
          have HA := Lib.hid (show ∀ W, Below v.heap.size v W → _ from by rw [← hv]; exact HA.out)
          rw [hv]
          clear hv
          refine (HH.out.rd _ HV.out).mono ?_
          rintro e w1 ⟨rfl, hb⟩
          have HQ1 := Lib.hid hb
          obtain ⟨n0, n1, n2, n3, n4, n5, n6⟩ := HA.out w1 HQ1.out
          clear hb
          go_wp2_with fail
          go_ret
          exact ⟨ret_bool rfl, HV.out.trans (HQ1.out.mono HV.out.size)⟩
        | true =>
          cases EW with
          | false =>
            replace hW : (0 : Int) < (WL : Int) := of_decide_eq_true hW
            go_enter Tryd.func16, Tryd.ntmps16
            go_wp2_with fail
            obtain ⟨v, hv⟩ : ∃ v, w.alloc (.cells #[.string o, .string x, .slice kp KL kc, .slice wp WL wc, .slice pp PL pc, .slice ap AL ac, .slice rp RL rc] 49) = v := ⟨_, rfl⟩
            have HV := Lib.hid (show Below w.heap.size w v by rw [← hv]; exact HBX.out _)
            have HA := Lib.hid (show ∀ W, Below v.heap.size v W → _ from by rw [← hv]; exact HA.out)
            rw [hv]
            clear hv
            refine (HH.out.rd _ HV.out).mono ?_
            rintro e w1 ⟨rfl, hb⟩
            have HQ1 := Lib.hid hb
            obtain ⟨n0, n1, n2, n3, n4, n5, n6⟩ := HA.out w1 HQ1.out
            clear hb
            go_wp2_with fail
            go_ret
            exact ⟨ret_bool rfl, HV.out.trans (HQ1.out.mono HV.out.size)⟩
          | true =>
            replace hW : ¬ (0 : Int) < (WL : Int) := of_decide_eq_false hW
            obtain ⟨K, hK⟩ : ∃ K, ((KL : Int) == 1) = K := ⟨_, rfl⟩
            rw [hK]
            go_enter Tryd.func16, Tryd.ntmps16
            go_wp2_with fail
            obtain ⟨v, hv⟩ : ∃ v, w.alloc (.cells #[.string o, .string x, .slice kp KL kc, .slice wp WL wc, .slice pp PL pc, .slice ap AL ac, .slice rp RL rc] 49) = v := ⟨_, rfl⟩
            have HV := Lib.hid (show Below w.heap.size w v by rw [← hv]; exact HBX.out _)
            have HA := Lib.hid (show ∀ W, Below v.heap.size v W → _ from by rw [← hv]; exact HA.out)
            rw [hv]
            clear hv
            refine (HH.out.rd _ HV.out).mono ?_
            rintro e w1 ⟨rfl, hb⟩
            have HQ1 := Lib.hid hb
            obtain ⟨n0, n1, n2, n3, n4, n5, n6⟩ := HA.out w1 HQ1.out
            clear hb
            go_wp2_with fail
            go_ret
            exact ⟨ret_bool rfl, HV.out.trans (HQ1.out.mono HV.out.size)⟩
set_option maxHeartbeats 16000000 in
set_option maxRecDepth 100000 in
theorem rone_sub {w : World} {o x : ByteArray} {kp wp pp ap rp : Option Addr} {KL WL PL AL RL kc wc pc ac rc : Nat} {RD CM N RS WA PT EA EP EN EW : Bool} (ho : o.toList = [115, 117, 98]) (h : OneC w o x kp wp pp ap rp KL WL PL AL RL kc wc pc ac rc RD CM N RS WA PT)
    (hA : decide ((0 : Int) < (AL : Int)) = !EA) (hP : decide ((0 : Int) < (PL : Int)) = !EP) (hW : decide ((0 : Int) < (WL : Int)) = !EW) (hN : x.toList.isEmpty = EN) :
    Calls Tryd.prog 16 #[.agg #[.string o, .string x, .slice kp KL kc, .slice wp WL wc, .slice pp PL pc, .slice ap AL ac, .slice rp RL rc]] w fun e w' => e = .returned (.bool (RD && (EA && (EP && (EN && (EW && ((KL : Int) == 1))))))) ∧ Below w.heap.size w w' := by
  have q0 : (o.toList == [99, 109, 100]) = false := by rw [ho]; decide
  have q1 : (o.toList == [115, 101, 113]) = false := by rw [ho]; decide
  have q2 : (o.toList == [97, 110, 100]) = false := by rw [ho]; decide
  have q3 : (o.toList == [111, 114]) = false := by rw [ho]; decide
  have q4 : (o.toList == [110, 111, 116]) = false := by rw [ho]; decide
  have q5 : (o.toList == [112, 105, 112, 101]) = false := by rw [ho]; decide
  have q6 : (o.toList == [105, 102]) = false := by rw [ho]; decide
  have q7 : (o.toList == [119, 104, 105, 108, 101]) = false := by rw [ho]; decide
  have q8 : (o.toList == [117, 110, 116, 105, 108]) = false := by rw [ho]; decide
  have q9 : (o.toList == [102, 111, 114]) = false := by rw [ho]; decide
  have q10 : (o.toList == [99, 97, 115, 101]) = false := by rw [ho]; decide
  have q11 : (o.toList == [102, 117, 110]) = false := by rw [ho]; decide
  have q12 : (o.toList == [103, 114, 111, 117, 112]) = false := by rw [ho]; decide
  have q13 : (o.toList == [115, 117, 98]) = true := by rw [ho]; decide
  have HH := Lib.hid h
  have HA := Lib.hid (node_all w o x (.slice kp KL kc) (.slice wp WL wc) (.slice pp PL pc) (.slice ap AL ac) (.slice rp RL rc) 49)
  have HBX := Lib.hid (fun o => below_one w o)
  clear h ho
  cases RD with
  | false =>
    go_enter Tryd.func16, Tryd.ntmps16
    go_wp2_with fail
    obtain ⟨v, hv⟩ : ∃ v, w.alloc (.cells #[.string o, .string x, .slice kp KL kc, .slice wp WL wc, .slice pp PL pc, .slice ap AL ac, .slice rp RL rc] 49) = v := ⟨_, rfl⟩
    have HV := Lib.hid (show Below w.heap.size w v by rw [← hv]; exact HBX.out _)
    have HA := Lib.hid (show ∀ W, Below v.heap.size v W → _ from by rw [← hv]; exact HA.out)
    rw [hv]
    clear hv
    refine (HH.out.rd _ HV.out).mono ?_
    rintro e w1 ⟨rfl, hb⟩
    have HQ1 := Lib.hid hb
    obtain ⟨n0, n1, n2, n3, n4, n5, n6⟩ := HA.out w1 HQ1.out
    clear hb
    go_wp2_with fail
    go_ret
    exact ⟨ret_bool rfl, HV.out.trans (HQ1.out.mono HV.out.size)⟩
  | true =>
    cases EA with
    | false =>
      replace hA : (0 : Int) < (AL : Int) := of_decide_eq_true hA
      go_enter Tryd.func16, Tryd.ntmps16
      go_wp2_with fail
      obtain ⟨v, hv⟩ : ∃ v, w.alloc (.cells #[.string o, .string x, .slice kp KL kc, .slice wp WL wc, .slice pp PL pc, .slice ap AL ac, .slice rp RL rc] 49) = v := ⟨_, rfl⟩
      have HV := Lib.hid (show Below w.heap.size w v by rw [← hv]; exact HBX.out _)
      have HA := Lib.hid (show ∀ W, Below v.heap.size v W → _ from by rw [← hv]; exact HA.out)
      rw [hv]
      clear hv
      refine (HH.out.rd _ HV.out).mono ?_
      rintro e w1 ⟨rfl, hb⟩
      have HQ1 := Lib.hid hb
      obtain ⟨n0, n1, n2, n3, n4, n5, n6⟩ := HA.out w1 HQ1.out
      clear hb
      go_wp2_with fail
      go_ret
      exact ⟨ret_bool rfl, HV.out.trans (HQ1.out.mono HV.out.size)⟩
    | true =>
      replace hA : ¬ (0 : Int) < (AL : Int) := of_decide_eq_false hA
      cases EP with
      | false =>
        replace hP : (0 : Int) < (PL : Int) := of_decide_eq_true hP
        go_enter Tryd.func16, Tryd.ntmps16
        go_wp2_with fail
        obtain ⟨v, hv⟩ : ∃ v, w.alloc (.cells #[.string o, .string x, .slice kp KL kc, .slice wp WL wc, .slice pp PL pc, .slice ap AL ac, .slice rp RL rc] 49) = v := ⟨_, rfl⟩
        have HV := Lib.hid (show Below w.heap.size w v by rw [← hv]; exact HBX.out _)
        have HA := Lib.hid (show ∀ W, Below v.heap.size v W → _ from by rw [← hv]; exact HA.out)
        rw [hv]
        clear hv
        refine (HH.out.rd _ HV.out).mono ?_
        rintro e w1 ⟨rfl, hb⟩
        have HQ1 := Lib.hid hb
        obtain ⟨n0, n1, n2, n3, n4, n5, n6⟩ := HA.out w1 HQ1.out
        clear hb
        go_wp2_with fail
        go_ret
        exact ⟨ret_bool rfl, HV.out.trans (HQ1.out.mono HV.out.size)⟩
      | true =>
        replace hP : ¬ (0 : Int) < (PL : Int) := of_decide_eq_false hP
        cases EN with
        | false =>
          go_enter Tryd.func16, Tryd.ntmps16
          go_wp2_with fail
          obtain ⟨v, hv⟩ : ∃ v, w.alloc (.cells #[.string o, .string x, .slice kp KL kc, .slice wp WL wc, .slice pp PL pc, .slice ap AL ac, .slice rp RL rc] 49) = v := ⟨_, rfl⟩
          have HV := Lib.hid (show Below w.heap.size w v by rw [← hv]; exact HBX.out _)
          have HA := Lib.hid (show ∀ W, Below v.heap.size v W → _ from by rw [← hv]; exact HA.out)
          rw [hv]
          clear hv
          refine (HH.out.rd _ HV.out).mono ?_
          rintro e w1 ⟨rfl, hb⟩
          have HQ1 := Lib.hid hb
          obtain ⟨n0, n1, n2, n3, n4, n5, n6⟩ := HA.out w1 HQ1.out
          clear hb
          go_wp2_with fail
          go_ret
          exact ⟨ret_bool rfl, HV.out.trans (HQ1.out.mono HV.out.size)⟩
        | true =>
          cases EW with
          | false =>
            replace hW : (0 : Int) < (WL : Int) := of_decide_eq_true hW
            go_enter Tryd.func16, Tryd.ntmps16
            go_wp2_with fail
            obtain ⟨v, hv⟩ : ∃ v, w.alloc (.cells #[.string o, .string x, .slice kp KL kc, .slice wp WL wc, .slice pp PL pc, .slice ap AL ac, .slice rp RL rc] 49) = v := ⟨_, rfl⟩
            have HV := Lib.hid (show Below w.heap.size w v by rw [← hv]; exact HBX.out _)
            have HA := Lib.hid (show ∀ W, Below v.heap.size v W → _ from by rw [← hv]; exact HA.out)
            rw [hv]
            clear hv
            refine (HH.out.rd _ HV.out).mono ?_
            rintro e w1 ⟨rfl, hb⟩
            have HQ1 := Lib.hid hb
            obtain ⟨n0, n1, n2, n3, n4, n5, n6⟩ := HA.out w1 HQ1.out
            clear hb
            go_wp2_with fail
            go_ret
            exact ⟨ret_bool rfl, HV.out.trans (HQ1.out.mono HV.out.size)⟩
          | true =>
            replace hW : ¬ (0 : Int) < (WL : Int) := of_decide_eq_false hW
            obtain ⟨K, hK⟩ : ∃ K, ((KL : Int) == 1) = K := ⟨_, rfl⟩
            rw [hK]
            go_enter Tryd.func16, Tryd.ntmps16
            go_wp2_with fail
            obtain ⟨v, hv⟩ : ∃ v, w.alloc (.cells #[.string o, .string x, .slice kp KL kc, .slice wp WL wc, .slice pp PL pc, .slice ap AL ac, .slice rp RL rc] 49) = v := ⟨_, rfl⟩
            have HV := Lib.hid (show Below w.heap.size w v by rw [← hv]; exact HBX.out _)
            have HA := Lib.hid (show ∀ W, Below v.heap.size v W → _ from by rw [← hv]; exact HA.out)
            rw [hv]
            clear hv
            refine (HH.out.rd _ HV.out).mono ?_
            rintro e w1 ⟨rfl, hb⟩
            have HQ1 := Lib.hid hb
            obtain ⟨n0, n1, n2, n3, n4, n5, n6⟩ := HA.out w1 HQ1.out
            clear hb
            go_wp2_with fail
            go_ret
            exact ⟨ret_bool rfl, HV.out.trans (HQ1.out.mono HV.out.size)⟩
set_option maxHeartbeats 16000000 in
set_option maxRecDepth 100000 in
theorem rone_while {w : World} {o x : ByteArray} {kp wp pp ap rp : Option Addr} {KL WL PL AL RL kc wc pc ac rc : Nat} {RD CM N RS WA PT EA EP EN EW : Bool} (ho : o.toList = [119, 104, 105, 108, 101]) (h : OneC w o x kp wp pp ap rp KL WL PL AL RL kc wc pc ac rc RD CM N RS WA PT)
    (hA : decide ((0 : Int) < (AL : Int)) = !EA) (hP : decide ((0 : Int) < (PL : Int)) = !EP) (hW : decide ((0 : Int) < (WL : Int)) = !EW) (hN : x.toList.isEmpty = EN) :
    Calls Tryd.prog 16 #[.agg #[.string o, .string x, .slice kp KL kc, .slice wp WL wc, .slice pp PL pc, .slice ap AL ac, .slice rp RL rc]] w fun e w' => e = .returned (.bool (RD && (EA && (EP && (EN && (EW && ((KL : Int) == 2))))))) ∧ Below w.heap.size w w' := by
  have q0 : (o.toList == [99, 109, 100]) = false := by rw [ho]; decide
  have q1 : (o.toList == [115, 101, 113]) = false := by rw [ho]; decide
  have q2 : (o.toList == [97, 110, 100]) = false := by rw [ho]; decide
  have q3 : (o.toList == [111, 114]) = false := by rw [ho]; decide
  have q4 : (o.toList == [110, 111, 116]) = false := by rw [ho]; decide
  have q5 : (o.toList == [112, 105, 112, 101]) = false := by rw [ho]; decide
  have q6 : (o.toList == [105, 102]) = false := by rw [ho]; decide
  have q7 : (o.toList == [119, 104, 105, 108, 101]) = true := by rw [ho]; decide
  have q8 : (o.toList == [117, 110, 116, 105, 108]) = false := by rw [ho]; decide
  have q9 : (o.toList == [102, 111, 114]) = false := by rw [ho]; decide
  have q10 : (o.toList == [99, 97, 115, 101]) = false := by rw [ho]; decide
  have q11 : (o.toList == [102, 117, 110]) = false := by rw [ho]; decide
  have q12 : (o.toList == [103, 114, 111, 117, 112]) = false := by rw [ho]; decide
  have q13 : (o.toList == [115, 117, 98]) = false := by rw [ho]; decide
  have HH := Lib.hid h
  have HA := Lib.hid (node_all w o x (.slice kp KL kc) (.slice wp WL wc) (.slice pp PL pc) (.slice ap AL ac) (.slice rp RL rc) 49)
  have HBX := Lib.hid (fun o => below_one w o)
  clear h ho
  cases RD with
  | false =>
    go_enter Tryd.func16, Tryd.ntmps16
    go_wp2_with fail
    obtain ⟨v, hv⟩ : ∃ v, w.alloc (.cells #[.string o, .string x, .slice kp KL kc, .slice wp WL wc, .slice pp PL pc, .slice ap AL ac, .slice rp RL rc] 49) = v := ⟨_, rfl⟩
    have HV := Lib.hid (show Below w.heap.size w v by rw [← hv]; exact HBX.out _)
    have HA := Lib.hid (show ∀ W, Below v.heap.size v W → _ from by rw [← hv]; exact HA.out)
    rw [hv]
    clear hv
    refine (HH.out.rd _ HV.out).mono ?_
    rintro e w1 ⟨rfl, hb⟩
    have HQ1 := Lib.hid hb
    obtain ⟨n0, n1, n2, n3, n4, n5, n6⟩ := HA.out w1 HQ1.out
    clear hb
    go_wp2_with fail
    go_ret
    exact ⟨ret_bool rfl, HV.out.trans (HQ1.out.mono HV.out.size)⟩
  | true =>
    cases EA with
    | false =>
      replace hA : (0 : Int) < (AL : Int) := of_decide_eq_true hA
      go_enter Tryd.func16, Tryd.ntmps16
      go_wp2_with fail
      obtain ⟨v, hv⟩ : ∃ v, w.alloc (.cells #[.string o, .string x, .slice kp KL kc, .slice wp WL wc, .slice pp PL pc, .slice ap AL ac, .slice rp RL rc] 49) = v := ⟨_, rfl⟩
      have HV := Lib.hid (show Below w.heap.size w v by rw [← hv]; exact HBX.out _)
      have HA := Lib.hid (show ∀ W, Below v.heap.size v W → _ from by rw [← hv]; exact HA.out)
      rw [hv]
      clear hv
      refine (HH.out.rd _ HV.out).mono ?_
      rintro e w1 ⟨rfl, hb⟩
      have HQ1 := Lib.hid hb
      obtain ⟨n0, n1, n2, n3, n4, n5, n6⟩ := HA.out w1 HQ1.out
      clear hb
      go_wp2_with fail
      go_ret
      exact ⟨ret_bool rfl, HV.out.trans (HQ1.out.mono HV.out.size)⟩
    | true =>
      replace hA : ¬ (0 : Int) < (AL : Int) := of_decide_eq_false hA
      cases EP with
      | false =>
        replace hP : (0 : Int) < (PL : Int) := of_decide_eq_true hP
        go_enter Tryd.func16, Tryd.ntmps16
        go_wp2_with fail
        obtain ⟨v, hv⟩ : ∃ v, w.alloc (.cells #[.string o, .string x, .slice kp KL kc, .slice wp WL wc, .slice pp PL pc, .slice ap AL ac, .slice rp RL rc] 49) = v := ⟨_, rfl⟩
        have HV := Lib.hid (show Below w.heap.size w v by rw [← hv]; exact HBX.out _)
        have HA := Lib.hid (show ∀ W, Below v.heap.size v W → _ from by rw [← hv]; exact HA.out)
        rw [hv]
        clear hv
        refine (HH.out.rd _ HV.out).mono ?_
        rintro e w1 ⟨rfl, hb⟩
        have HQ1 := Lib.hid hb
        obtain ⟨n0, n1, n2, n3, n4, n5, n6⟩ := HA.out w1 HQ1.out
        clear hb
        go_wp2_with fail
        go_ret
        exact ⟨ret_bool rfl, HV.out.trans (HQ1.out.mono HV.out.size)⟩
      | true =>
        replace hP : ¬ (0 : Int) < (PL : Int) := of_decide_eq_false hP
        cases EN with
        | false =>
          go_enter Tryd.func16, Tryd.ntmps16
          go_wp2_with fail
          obtain ⟨v, hv⟩ : ∃ v, w.alloc (.cells #[.string o, .string x, .slice kp KL kc, .slice wp WL wc, .slice pp PL pc, .slice ap AL ac, .slice rp RL rc] 49) = v := ⟨_, rfl⟩
          have HV := Lib.hid (show Below w.heap.size w v by rw [← hv]; exact HBX.out _)
          have HA := Lib.hid (show ∀ W, Below v.heap.size v W → _ from by rw [← hv]; exact HA.out)
          rw [hv]
          clear hv
          refine (HH.out.rd _ HV.out).mono ?_
          rintro e w1 ⟨rfl, hb⟩
          have HQ1 := Lib.hid hb
          obtain ⟨n0, n1, n2, n3, n4, n5, n6⟩ := HA.out w1 HQ1.out
          clear hb
          go_wp2_with fail
          go_ret
          exact ⟨ret_bool rfl, HV.out.trans (HQ1.out.mono HV.out.size)⟩
        | true =>
          cases EW with
          | false =>
            replace hW : (0 : Int) < (WL : Int) := of_decide_eq_true hW
            go_enter Tryd.func16, Tryd.ntmps16
            go_wp2_with fail
            obtain ⟨v, hv⟩ : ∃ v, w.alloc (.cells #[.string o, .string x, .slice kp KL kc, .slice wp WL wc, .slice pp PL pc, .slice ap AL ac, .slice rp RL rc] 49) = v := ⟨_, rfl⟩
            have HV := Lib.hid (show Below w.heap.size w v by rw [← hv]; exact HBX.out _)
            have HA := Lib.hid (show ∀ W, Below v.heap.size v W → _ from by rw [← hv]; exact HA.out)
            rw [hv]
            clear hv
            refine (HH.out.rd _ HV.out).mono ?_
            rintro e w1 ⟨rfl, hb⟩
            have HQ1 := Lib.hid hb
            obtain ⟨n0, n1, n2, n3, n4, n5, n6⟩ := HA.out w1 HQ1.out
            clear hb
            go_wp2_with fail
            go_ret
            exact ⟨ret_bool rfl, HV.out.trans (HQ1.out.mono HV.out.size)⟩
          | true =>
            replace hW : ¬ (0 : Int) < (WL : Int) := of_decide_eq_false hW
            obtain ⟨K, hK⟩ : ∃ K, ((KL : Int) == 2) = K := ⟨_, rfl⟩
            rw [hK]
            go_enter Tryd.func16, Tryd.ntmps16
            go_wp2_with fail
            obtain ⟨v, hv⟩ : ∃ v, w.alloc (.cells #[.string o, .string x, .slice kp KL kc, .slice wp WL wc, .slice pp PL pc, .slice ap AL ac, .slice rp RL rc] 49) = v := ⟨_, rfl⟩
            have HV := Lib.hid (show Below w.heap.size w v by rw [← hv]; exact HBX.out _)
            have HA := Lib.hid (show ∀ W, Below v.heap.size v W → _ from by rw [← hv]; exact HA.out)
            rw [hv]
            clear hv
            refine (HH.out.rd _ HV.out).mono ?_
            rintro e w1 ⟨rfl, hb⟩
            have HQ1 := Lib.hid hb
            obtain ⟨n0, n1, n2, n3, n4, n5, n6⟩ := HA.out w1 HQ1.out
            clear hb
            go_wp2_with fail
            go_ret
            exact ⟨ret_bool rfl, HV.out.trans (HQ1.out.mono HV.out.size)⟩
set_option maxHeartbeats 16000000 in
set_option maxRecDepth 100000 in
theorem rone_until {w : World} {o x : ByteArray} {kp wp pp ap rp : Option Addr} {KL WL PL AL RL kc wc pc ac rc : Nat} {RD CM N RS WA PT EA EP EN EW : Bool} (ho : o.toList = [117, 110, 116, 105, 108]) (h : OneC w o x kp wp pp ap rp KL WL PL AL RL kc wc pc ac rc RD CM N RS WA PT)
    (hA : decide ((0 : Int) < (AL : Int)) = !EA) (hP : decide ((0 : Int) < (PL : Int)) = !EP) (hW : decide ((0 : Int) < (WL : Int)) = !EW) (hN : x.toList.isEmpty = EN) :
    Calls Tryd.prog 16 #[.agg #[.string o, .string x, .slice kp KL kc, .slice wp WL wc, .slice pp PL pc, .slice ap AL ac, .slice rp RL rc]] w fun e w' => e = .returned (.bool (RD && (EA && (EP && (EN && (EW && ((KL : Int) == 2))))))) ∧ Below w.heap.size w w' := by
  have q0 : (o.toList == [99, 109, 100]) = false := by rw [ho]; decide
  have q1 : (o.toList == [115, 101, 113]) = false := by rw [ho]; decide
  have q2 : (o.toList == [97, 110, 100]) = false := by rw [ho]; decide
  have q3 : (o.toList == [111, 114]) = false := by rw [ho]; decide
  have q4 : (o.toList == [110, 111, 116]) = false := by rw [ho]; decide
  have q5 : (o.toList == [112, 105, 112, 101]) = false := by rw [ho]; decide
  have q6 : (o.toList == [105, 102]) = false := by rw [ho]; decide
  have q7 : (o.toList == [119, 104, 105, 108, 101]) = false := by rw [ho]; decide
  have q8 : (o.toList == [117, 110, 116, 105, 108]) = true := by rw [ho]; decide
  have q9 : (o.toList == [102, 111, 114]) = false := by rw [ho]; decide
  have q10 : (o.toList == [99, 97, 115, 101]) = false := by rw [ho]; decide
  have q11 : (o.toList == [102, 117, 110]) = false := by rw [ho]; decide
  have q12 : (o.toList == [103, 114, 111, 117, 112]) = false := by rw [ho]; decide
  have q13 : (o.toList == [115, 117, 98]) = false := by rw [ho]; decide
  have HH := Lib.hid h
  have HA := Lib.hid (node_all w o x (.slice kp KL kc) (.slice wp WL wc) (.slice pp PL pc) (.slice ap AL ac) (.slice rp RL rc) 49)
  have HBX := Lib.hid (fun o => below_one w o)
  clear h ho
  cases RD with
  | false =>
    go_enter Tryd.func16, Tryd.ntmps16
    go_wp2_with fail
    obtain ⟨v, hv⟩ : ∃ v, w.alloc (.cells #[.string o, .string x, .slice kp KL kc, .slice wp WL wc, .slice pp PL pc, .slice ap AL ac, .slice rp RL rc] 49) = v := ⟨_, rfl⟩
    have HV := Lib.hid (show Below w.heap.size w v by rw [← hv]; exact HBX.out _)
    have HA := Lib.hid (show ∀ W, Below v.heap.size v W → _ from by rw [← hv]; exact HA.out)
    rw [hv]
    clear hv
    refine (HH.out.rd _ HV.out).mono ?_
    rintro e w1 ⟨rfl, hb⟩
    have HQ1 := Lib.hid hb
    obtain ⟨n0, n1, n2, n3, n4, n5, n6⟩ := HA.out w1 HQ1.out
    clear hb
    go_wp2_with fail
    go_ret
    exact ⟨ret_bool rfl, HV.out.trans (HQ1.out.mono HV.out.size)⟩
  | true =>
    cases EA with
    | false =>
      replace hA : (0 : Int) < (AL : Int) := of_decide_eq_true hA
      go_enter Tryd.func16, Tryd.ntmps16
      go_wp2_with fail
      obtain ⟨v, hv⟩ : ∃ v, w.alloc (.cells #[.string o, .string x, .slice kp KL kc, .slice wp WL wc, .slice pp PL pc, .slice ap AL ac, .slice rp RL rc] 49) = v := ⟨_, rfl⟩
      have HV := Lib.hid (show Below w.heap.size w v by rw [← hv]; exact HBX.out _)
      have HA := Lib.hid (show ∀ W, Below v.heap.size v W → _ from by rw [← hv]; exact HA.out)
      rw [hv]
      clear hv
      refine (HH.out.rd _ HV.out).mono ?_
      rintro e w1 ⟨rfl, hb⟩
      have HQ1 := Lib.hid hb
      obtain ⟨n0, n1, n2, n3, n4, n5, n6⟩ := HA.out w1 HQ1.out
      clear hb
      go_wp2_with fail
      go_ret
      exact ⟨ret_bool rfl, HV.out.trans (HQ1.out.mono HV.out.size)⟩
    | true =>
      replace hA : ¬ (0 : Int) < (AL : Int) := of_decide_eq_false hA
      cases EP with
      | false =>
        replace hP : (0 : Int) < (PL : Int) := of_decide_eq_true hP
        go_enter Tryd.func16, Tryd.ntmps16
        go_wp2_with fail
        obtain ⟨v, hv⟩ : ∃ v, w.alloc (.cells #[.string o, .string x, .slice kp KL kc, .slice wp WL wc, .slice pp PL pc, .slice ap AL ac, .slice rp RL rc] 49) = v := ⟨_, rfl⟩
        have HV := Lib.hid (show Below w.heap.size w v by rw [← hv]; exact HBX.out _)
        have HA := Lib.hid (show ∀ W, Below v.heap.size v W → _ from by rw [← hv]; exact HA.out)
        rw [hv]
        clear hv
        refine (HH.out.rd _ HV.out).mono ?_
        rintro e w1 ⟨rfl, hb⟩
        have HQ1 := Lib.hid hb
        obtain ⟨n0, n1, n2, n3, n4, n5, n6⟩ := HA.out w1 HQ1.out
        clear hb
        go_wp2_with fail
        go_ret
        exact ⟨ret_bool rfl, HV.out.trans (HQ1.out.mono HV.out.size)⟩
      | true =>
        replace hP : ¬ (0 : Int) < (PL : Int) := of_decide_eq_false hP
        cases EN with
        | false =>
          go_enter Tryd.func16, Tryd.ntmps16
          go_wp2_with fail
          obtain ⟨v, hv⟩ : ∃ v, w.alloc (.cells #[.string o, .string x, .slice kp KL kc, .slice wp WL wc, .slice pp PL pc, .slice ap AL ac, .slice rp RL rc] 49) = v := ⟨_, rfl⟩
          have HV := Lib.hid (show Below w.heap.size w v by rw [← hv]; exact HBX.out _)
          have HA := Lib.hid (show ∀ W, Below v.heap.size v W → _ from by rw [← hv]; exact HA.out)
          rw [hv]
          clear hv
          refine (HH.out.rd _ HV.out).mono ?_
          rintro e w1 ⟨rfl, hb⟩
          have HQ1 := Lib.hid hb
          obtain ⟨n0, n1, n2, n3, n4, n5, n6⟩ := HA.out w1 HQ1.out
          clear hb
          go_wp2_with fail
          go_ret
          exact ⟨ret_bool rfl, HV.out.trans (HQ1.out.mono HV.out.size)⟩
        | true =>
          cases EW with
          | false =>
            replace hW : (0 : Int) < (WL : Int) := of_decide_eq_true hW
            go_enter Tryd.func16, Tryd.ntmps16
            go_wp2_with fail
            obtain ⟨v, hv⟩ : ∃ v, w.alloc (.cells #[.string o, .string x, .slice kp KL kc, .slice wp WL wc, .slice pp PL pc, .slice ap AL ac, .slice rp RL rc] 49) = v := ⟨_, rfl⟩
            have HV := Lib.hid (show Below w.heap.size w v by rw [← hv]; exact HBX.out _)
            have HA := Lib.hid (show ∀ W, Below v.heap.size v W → _ from by rw [← hv]; exact HA.out)
            rw [hv]
            clear hv
            refine (HH.out.rd _ HV.out).mono ?_
            rintro e w1 ⟨rfl, hb⟩
            have HQ1 := Lib.hid hb
            obtain ⟨n0, n1, n2, n3, n4, n5, n6⟩ := HA.out w1 HQ1.out
            clear hb
            go_wp2_with fail
            go_ret
            exact ⟨ret_bool rfl, HV.out.trans (HQ1.out.mono HV.out.size)⟩
          | true =>
            replace hW : ¬ (0 : Int) < (WL : Int) := of_decide_eq_false hW
            obtain ⟨K, hK⟩ : ∃ K, ((KL : Int) == 2) = K := ⟨_, rfl⟩
            rw [hK]
            go_enter Tryd.func16, Tryd.ntmps16
            go_wp2_with fail
            obtain ⟨v, hv⟩ : ∃ v, w.alloc (.cells #[.string o, .string x, .slice kp KL kc, .slice wp WL wc, .slice pp PL pc, .slice ap AL ac, .slice rp RL rc] 49) = v := ⟨_, rfl⟩
            have HV := Lib.hid (show Below w.heap.size w v by rw [← hv]; exact HBX.out _)
            have HA := Lib.hid (show ∀ W, Below v.heap.size v W → _ from by rw [← hv]; exact HA.out)
            rw [hv]
            clear hv
            refine (HH.out.rd _ HV.out).mono ?_
            rintro e w1 ⟨rfl, hb⟩
            have HQ1 := Lib.hid hb
            obtain ⟨n0, n1, n2, n3, n4, n5, n6⟩ := HA.out w1 HQ1.out
            clear hb
            go_wp2_with fail
            go_ret
            exact ⟨ret_bool rfl, HV.out.trans (HQ1.out.mono HV.out.size)⟩
end Go.Proofs.YtloaalapkmbgeaaDoor
