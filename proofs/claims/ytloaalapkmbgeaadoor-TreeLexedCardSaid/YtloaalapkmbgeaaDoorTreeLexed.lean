/-
  Proved: the walk of the law TreeLexed: it answers true and changes nothing that was there. Conditions: the listed variables lie as they should.
-/
import Derived.Test.YtloaalapkmbgeaaDoorTreeKnown
import Derived.Test.YtloaalapkmbgeaaDoorTreeLexM
import Derived.Test.YtloaalapkmbgeaaDoorRexEnds
namespace Go.Proofs.YtloaalapkmbgeaaDoor
open Go Go.RowKit GlyphMath LexMath TreeMath

/-- A word that was made is one that can be read. -/
theorem WordV.ps {w : World} {F : Nat → Prop} {v : Value} {ps : List Pt} (h : WordV w F v ps) : PsAt w v ps := by
  induction h with
  | row v ps vs hown hl hF hs ih =>
    rcases hown.2 with ⟨rfl, h0⟩ | ⟨g, cap, cur, rfl, -, -, hle, hm, -⟩
    · have hp : ps = [] := List.eq_nil_of_length_eq_zero h0
      subst hp
      exact PsAt.nil w 0
    · have hc := hown.cellAt
      refine .mk (some ⟨g, 0, none⟩) cap ps vs hl.symm (by omega) (fun k q u hq hu => ⟨g, 0, rfl, fun i x hx => ?_⟩) ih
      have hi : i < 5 := (List.getElem?_eq_some_iff.1 hx).1
      have hk := (List.getElem?_eq_some_iff.1 hq).1
      have h5 := (hc (k * 5 + i) (by omega)).trans ((rowCells_get ps vs k q u hq hu hl i hi).trans hx)
      simpa [Nat.add_assoc] using h5

set_option maxHeartbeats 2000000 in
set_option maxRecDepth 100000 in
theorem lexed_law (s : ByteArray) (w : World) (hS : Shapes w) (hT : Tabs w) :
    Calls Tryd.prog 6 #[.string s] w fun e w' => e = .returned (.bool true) ∧ Below w.heap.size w w' := by
  have HR := Lib.hid (rtokens_any s w hT)
  have HS := Lib.hid hS
  clear hS hT
  by_cases hsz : 1000 < s.size
  · have hszi : (1000 : Int) < (s.size : Int) := by omega
    clear hsz
    go_enter Tryd.func6, Tryd.ntmps6
    go_wp2_with fail
    refine HR.out.mono ?_
    rintro e w1 ⟨v, a, f, rfl, hb, -⟩
    have HB := Lib.hid hb
    clear hb
    go_wp2_with fail
    go_ret
    exact ⟨rfl, HB.out⟩
  have hszi : ¬ (1000 : Int) < (s.size : Int) := by omega
  have HSZ := Lib.hid (show s.size ≤ 1000 by omega)
  clear hsz
  go_enter Tryd.func6, Tryd.ntmps6
  go_wp2_with fail
  refine HR.out.mono ?_
  rintro e w1 ⟨v, a, f, rfl, hb, hok⟩
  have HB := Lib.hid hb
  have HOK := Lib.hid hok
  clear hb hok
  by_cases hf : f = 0
  case neg =>
    have hfi : (f != 0) = true := by simpa using hf
    clear hf
    go_wp2_with fail
    go_ret
    exact ⟨rfl, HB.out⟩
  subst hf
  obtain ⟨ht, ts, X, us, F, hm, ho⟩ := HOK.out rfl
  obtain ⟨hg1, hg2⟩ := text_good ht
  have HW := Lib.hid (tokens_words _ _ _ _ hg2 (by have := letters_length s; have := HSZ.out; omega) hm (fun _ h => by cases h))
  obtain ⟨p, c, hv, hat⟩ := ho.at
  subst hv
  have hlen : ts.length ≤ maxLen := by
    rcases ho.own.2 with ⟨_, h0⟩ | ⟨_, cap, _, _, _, _, hle, hmx, _⟩
    · omega
    · omega
  have HAT := Lib.hid (show ∀ (k : Nat) (t : Tk), ts[k]? = some t → ∃ u, PsAt w1 u t.word ∧ TokC w1 p k t.kind ⟨t.text.toArray⟩ u t.at_ from fun k t hk => by
    obtain ⟨u, -, h1, h2⟩ := hat k t hk
    exact ⟨u, h1.ps, h2⟩)
  obtain ⟨N, hN⟩ : ∃ N, ts.length = N := ⟨_, rfl⟩
  have HN := Lib.hid hN
  rw [hN] at hlen
  have hN0 : (N : Int) ≤ 2 ^ 63 - 1 := by unfold maxLen at hlen; omega
  rw [hN]
  clear HOK hm ho hat ht hg1 hg2 hlen hN
  go_wp2_with fail
  go_loopw [6] (fun i wr => ∃ k : Nat, i = .int .i64 (k : Int) ∧ k ≤ N ∧ Below w1.heap.size w1 wr) (fun i _ => N - (intOf i).toNat)
  case atStart => exact ⟨0, rfl, Nat.zero_le _, Below.refl _ _⟩
  case round =>
    obtain ⟨k, rfl, hk, hbr⟩ := hrel
    have HBR := Lib.hid hbr
    clear hbr
    by_cases hlt : k < N
    · obtain ⟨t, ht⟩ : ∃ t, ts[k]? = some t := ⟨_, List.getElem?_eq_getElem (by rw [HN.out]; exact hlt)⟩
      obtain ⟨u, hu, htc⟩ := HAT.out k t ht
      obtain ⟨b, o, rfl, a0, a1, a2, a3⟩ := htc.below HBR.out
      have HU := Lib.hid (hu.stays HBR.out)
      have HTW := Lib.hid (HW.out t (List.mem_of_getElem? ht))
      have hk0 : (k : Int) < (N : Int) := by omega
      have HKK := Lib.hid hlt
      obtain ⟨kd, hkd⟩ : ∃ kd, t.kind = kd := ⟨_, rfl⟩
      rw [hkd] at a0 HTW
      clear hu htc ht hlt hk a1 a3 hkd
      by_cases h1 : kd = 1
      · subst h1
        have HC := Lib.hid (show Calls Tryd.prog 13 #[.agg #[u]] wr fun e w' => e = .returned (.bool true) ∧ Below wr.heap.size wr w' from by
          have := word_any t.word u wr HU.out (HTW.out rfl).2
          rwa [(HTW.out rfl).1] at this)
        go_wp2_with (go_at_call 13; refine HC.out.mono ?_; rintro e w2 ⟨rfl, hb⟩; have HB2 := Lib.hid (HBR.out.trans (hb.mono HBR.out.size)); clear hb)
        exact ⟨⟨k + 1, by simp, HKK.out, HB2.out⟩, by have := HKK.out; simp [intOf]; omega⟩
      · have h1i : (kd == 1) = false := int_ne h1
        clear h1
        go_wp2_with fail
        exact ⟨⟨k + 1, by simp, HKK.out, HBR.out⟩, by have := HKK.out; simp [intOf]; omega⟩
    · have hk0 : ¬ (k : Int) < (N : Int) := by omega
      have HKN := Lib.hid (known_any wr (HS.out.below (HB.out.trans (HBR.out.mono HB.out.size))))
      clear hlt hk
      go_wp2_with (go_at_call 10; refine HKN.out.mono ?_; rintro e w5 ⟨rfl, hb5⟩; have HB5 := Lib.hid hb5; clear hb5)
      go_ret
      exact ⟨rfl, HB.out.trans ((HBR.out.trans (HB5.out.mono HBR.out.size)).mono HB.out.size)⟩
end Go.Proofs.YtloaalapkmbgeaaDoor
