/-
  Proved: contract of Text; what has one text is one row of letters. Conditions: the pattern lies in memory, at most 1000 letters; each is an int32.
-/
import Derived.Test.YtpgmlbdfmcbgoaaDoorGlBuild
import Derived.Test.YtpgmlbdfmcbgoaaDoorGlRow
namespace Go.Proofs.YtpgmlbdfmcbgoaaDoor
open Go Go.RowKit GlyphMath GlMath

/-- A pattern's bytes. -/
def textB : List Ch → List UInt8
  | [] => []
  | c :: l => Lib.encodeRune c.1 ++ textB l
theorem textB_append : ∀ (l m : List Ch), textB (l ++ m) = textB l ++ textB m
  | [], _ => rfl
  | c :: l, m => by simp [textB, textB_append l m]
theorem encR_len (r : Int) : (Lib.encodeRune r).length ≤ 4 := by
  have h := Lib.runeCells_le r
  have e := Lib.byteCells_encodeRune r
  rw [← e, Lib.byteCells_length] at h
  exact h.2
theorem textB_len : ∀ (l : List Ch), (textB l).length ≤ 4 * l.length
  | [] => by simp [textB]
  | c :: l => by
    have h1 := encR_len c.1
    have h2 := textB_len l
    rw [textB, List.length_append, List.length_cons]; omega
def RelX (l : List Ch) (w : World) (v : Value) (wr : World) : Prop :=
  ∃ k : Nat, v = .int .i64 (k : Int) ∧ k ≤ l.length ∧ Bld wr w.heap.size w.heap.size (textB (l.take k)) ∧ Below w.heap.size w wr
set_option maxHeartbeats 1000000 in
set_option maxRecDepth 100000 in
theorem text_any (l : List Ch) (v : Value) (w : World) (h : ChAt w v l) (hl : l.length ≤ 1000) (hr : ∀ c ∈ l, -2147483648 ≤ c.1 ∧ c.1 ≤ 2147483647) :
    Calls Tryd.prog 10 #[v] w fun e w' => e = .returned (.string ⟨(textB l).toArray⟩) ∧ Below w.heap.size w w' := by
  obtain ⟨p, c, rfl, -⟩ := h.is
  have HA := Lib.hid h
  obtain ⟨N, hN⟩ : ∃ N, l.length = N := ⟨_, rfl⟩
  have HN := Lib.hid hN
  have HNL := Lib.hid (show N ≤ 1000 by omega)
  have HR := Lib.hid hr
  rw [hN] at HA ⊢
  obtain ⟨W1, hW1⟩ : ∃ W1, w.alloc (.cells #[.pointer none, .slice none 0 0] 45) = W1 := ⟨_, rfl⟩
  have HB1 := Lib.hid (show Below w.heap.size w W1 by rw [← hW1]; exact (Below.refl _ w).alloc (Nat.le_refl _) _)
  have HD1 := Lib.hid (show Bld W1 w.heap.size w.heap.size [] by rw [← hW1]; exact Bld.new w)
  obtain ⟨TX, hTX⟩ : ∃ T : ByteArray, ⟨(textB l).toArray⟩ = T := ⟨_, rfl⟩
  have HTX := Lib.hid hTX
  rw [hTX]
  clear h hl hr hN hTX
  go_enter Tryd.func10, Tryd.ntmps10
  go_wp2_with (rw [hW1]; clear hW1)
  go_loopw [8] (fun v wr => RelX l w v wr) (fun v _ => N - (intOf v).toNat)
  case atStart => exact ⟨0, rfl, Nat.zero_le _, HD1.out, HB1.out⟩
  case round =>
    obtain ⟨k, rfl, hk, hd, hb⟩ := hrel
    rw [HN.out] at hk
    have HB := Lib.hid hb
    by_cases hlt : k < N
    · obtain ⟨x, hx⟩ : ∃ x, l[k]? = some x := ⟨_, List.getElem?_eq_getElem (by rw [HN.out]; exact hlt)⟩
      obtain ⟨b, o, hq, c0, c1⟩ := (HA.out.below hb).get hx
      subst hq
      have hxr := HR.out x (List.mem_of_getElem? hx)
      obtain ⟨x1, x2⟩ := x
      simp only at c0 c1 hxr
      have HLT := Lib.hid hlt
      have hltI : (k : Int) < (N : Int) := by omega
      have hk1 : (k : Int) + 1 ≤ 9223372036854775807 := by have := HNL.out; omega
      have hbA := (Below.refl wr.heap.size wr).alloc (Nat.le_refl _) (.cells #[.int .i32 x1, .bool x2] 35)
      have hlen : (textB (l.take k)).length ≤ 100000 := by
        have h1 := textB_len (l.take k)
        have h2 := HNL.out
        rw [List.length_take] at h1
        omega
      have HWR := Lib.hid (writeRune_any w.heap.size w.heap.size (textB (l.take k)) x1 hxr.1 hxr.2 _ (hd.below hbA) hlen (by have := hb.size; simp; omega))
      have HBA := Lib.hid (hb.trans (hbA.mono hb.size))
      have HX := Lib.hid (show textB (l.take k) ++ Lib.encodeRune x1 = textB (l.take (k + 1)) by
        rw [List.take_add_one, hx, textB_append]; simp [textB])
      clear hd hb hlt hk hx hxr hbA hlen
      go_wp2_with (go_at_call 20; refine HWR.out.mono ?_; rintro e w2 ⟨⟨n, rfl⟩, hd2, hb2⟩; have HD2 := Lib.hid (And.intro hd2 hb2); clear hd2 hb2)
      go_roundw
      case rel => exact ⟨k + 1, by simp, by rw [HN.out]; exact HLT.out, by rw [← HX.out]; exact HD2.out.1, HBA.out.trans HD2.out.2⟩
      case measure => have := HLT.out; simp [intOf]; omega
    · have hltI : ¬ (k : Int) < (N : Int) := by omega
      have HS := Lib.hid (string_any w.heap.size w.heap.size _ wr hd hb.size)
      have HK := Lib.hid (show (⟨(textB (l.take k)).toArray⟩ : ByteArray) = TX by rw [List.take_of_length_le (by rw [HN.out]; omega)]; exact HTX.out)
      rw [HK.out] at HS
      clear hd hb hlt hk
      go_wp2_with (go_at_call 21; refine HS.out.mono ?_; rintro e w3 ⟨rfl, hb3⟩; have HB3 := Lib.hid hb3; clear hb3)
      go_ret
      exact ⟨rfl, HB.out.trans HB3.out⟩

/-! ### one text, one row of letters -/
def ebL (c : Nat) : List UInt8 :=
  if c < 128 then [UInt8.ofNat c]
  else if c < 2048 then [UInt8.ofNat (192 + c / 64), UInt8.ofNat (128 + c % 64)]
  else if c < 65536 then [UInt8.ofNat (224 + c / 4096), UInt8.ofNat (128 + c / 64 % 64), UInt8.ofNat (128 + c % 64)]
  else [UInt8.ofNat (240 + c / 262144), UInt8.ofNat (128 + c / 4096 % 64), UInt8.ofNat (128 + c / 64 % 64), UInt8.ofNat (128 + c % 64)]
theorem ebL_is {r : Nat} (h : OkL r) : Lib.encodeRune (r : Int) = ebL r := by
  obtain ⟨h1, h2⟩ := h
  unfold Lib.encodeRune ebL
  by_cases k1 : r < 128
  · rw [Lib.encodeRuneZ_one (by omega) (by omega), if_pos k1]; simp [UInt8.ofNat, Int.toNat]
  · rw [if_neg k1]
    by_cases k2 : r < 2048
    · rw [Lib.encodeRuneZ_two (by omega) (by omega), if_pos k2]
      have e1 : (192 + (r : Int) / 64).toNat = 192 + r / 64 := by omega
      have e2 : (128 + (r : Int) % 64).toNat = 128 + r % 64 := by omega
      simp [e1, e2]
    · rw [if_neg k2]
      by_cases k3 : r < 65536
      · rw [Lib.encodeRuneZ_three (by omega), if_pos k3]
        have e1 : (224 + (r : Int) / 4096).toNat = 224 + r / 4096 := by omega
        have e2 : (128 + (r : Int) / 64 % 64).toNat = 128 + r / 64 % 64 := by omega
        have e3 : (128 + (r : Int) % 64).toNat = 128 + r % 64 := by omega
        simp [e1, e2, e3]
      · rw [Lib.encodeRuneZ_four (by omega) (by omega), if_neg k3]
        have e1 : (240 + (r : Int) / 262144).toNat = 240 + r / 262144 := by omega
        have e2 : (128 + (r : Int) / 4096 % 64).toNat = 128 + r / 4096 % 64 := by omega
        have e3 : (128 + (r : Int) / 64 % 64).toNat = 128 + r / 64 % 64 := by omega
        have e4 : (128 + (r : Int) % 64).toNat = 128 + r % 64 := by omega
        simp [e1, e2, e3, e4]
/-- The first letter, and what is left. -/
def dcd : List UInt8 → Nat × List UInt8
  | [] => (0, [])
  | a :: l => if a.toNat < 128 then (a.toNat, l)
    else if a.toNat < 224 then ((a.toNat - 192) * 64 + ((l.getD 0 0).toNat - 128), l.drop 1)
    else if a.toNat < 240 then ((a.toNat - 224) * 4096 + ((l.getD 0 0).toNat - 128) * 64 + ((l.getD 1 0).toNat - 128), l.drop 2)
    else ((a.toNat - 240) * 262144 + ((l.getD 0 0).toNat - 128) * 4096 + ((l.getD 1 0).toNat - 128) * 64 + ((l.getD 2 0).toNat - 128), l.drop 3)
theorem dcd_eb (r : Nat) (h : r ≤ 1114111) (l : List UInt8) : dcd (ebL r ++ l) = (r, l) := by
  unfold ebL
  by_cases k1 : r < 128
  · rw [if_pos k1]
    simp only [List.cons_append, List.nil_append, dcd]
    rw [byte_of _ (by omega), if_pos k1]
  · rw [if_neg k1]
    by_cases k2 : r < 2048
    · rw [if_pos k2]
      simp only [List.cons_append, List.nil_append, dcd, List.getD_cons_zero, List.drop_succ_cons, List.drop_zero]
      rw [byte_of (192 + r / 64) (by omega), byte_of (128 + r % 64) (by omega), if_neg (by omega), if_pos (by omega)]
      refine Prod.ext ?_ rfl; show _ = r; omega
    · rw [if_neg k2]
      by_cases k3 : r < 65536
      · rw [if_pos k3]
        simp only [List.cons_append, List.nil_append, dcd, List.getD_cons_zero, List.getD_cons_succ, List.drop_succ_cons, List.drop_zero]
        rw [byte_of (224 + r / 4096) (by omega), byte_of (128 + r / 64 % 64) (by omega), byte_of (128 + r % 64) (by omega), if_neg (by omega), if_neg (by omega), if_pos (by omega)]
        refine Prod.ext ?_ rfl; show _ = r; omega
      · rw [if_neg k3]
        simp only [List.cons_append, List.nil_append, dcd, List.getD_cons_zero, List.getD_cons_succ, List.drop_succ_cons, List.drop_zero]
        rw [byte_of (240 + r / 262144) (by omega), byte_of (128 + r / 4096 % 64) (by omega), byte_of (128 + r / 64 % 64) (by omega), byte_of (128 + r % 64) (by omega), if_neg (by omega), if_neg (by omega), if_neg (by omega)]
        refine Prod.ext ?_ rfl; show _ = r; omega
theorem ebL_some (r : Nat) : ebL r ≠ [] := by
  unfold ebL
  repeat' split
  all_goals simp
theorem text_inj (q : Bool) : ∀ (l m : List Nat), (∀ c ∈ l, OkL c) → (∀ c ∈ m, OkL c) → textB (chM q l) = textB (chM q m) → l = m
  | [], [], _, _, _ => rfl
  | [], c :: m, _, h2, h => by
    have e : textB (chM q (c :: m)) = ebL c ++ textB (chM q m) := by rw [← ebL_is (h2 c (by simp))]; rfl
    rw [e] at h
    exact absurd (List.append_eq_nil_iff.1 h.symm).1 (ebL_some c)
  | c :: l, [], h1, _, h => by
    have e : textB (chM q (c :: l)) = ebL c ++ textB (chM q l) := by rw [← ebL_is (h1 c (by simp))]; rfl
    rw [e] at h
    exact absurd (List.append_eq_nil_iff.1 h).1 (ebL_some c)
  | c :: l, d :: m, h1, h2, h => by
    have e1 : textB (chM q (c :: l)) = ebL c ++ textB (chM q l) := by rw [← ebL_is (h1 c (by simp))]; rfl
    have e2 : textB (chM q (d :: m)) = ebL d ++ textB (chM q m) := by rw [← ebL_is (h2 d (by simp))]; rfl
    rw [e1, e2] at h
    have h3 := congrArg dcd h
    rw [dcd_eb _ (h1 c (by simp)).1, dcd_eb _ (h2 d (by simp)).1] at h3
    simp only [Prod.mk.injEq] at h3
    rw [h3.1, text_inj q l m (fun x hx => h1 x (List.mem_cons_of_mem _ hx)) (fun x hx => h2 x (List.mem_cons_of_mem _ hx)) h3.2]
theorem text_same (l m : List Nat) (hl : ∀ c ∈ l, OkL c) (hm : ∀ c ∈ m, OkL c) : ((⟨(textB (chM true l)).toArray⟩ : ByteArray).toList == (⟨(textB (chM true m)).toArray⟩ : ByteArray).toList) = decide (l = m) := by
  rw [Lib.toList_data, Lib.toList_data]
  by_cases h : l = m
  · subst h; simp
  · rw [decide_eq_false h]
    refine beq_eq_false_iff_ne.2 fun e => h (text_inj true l m hl hm ?_)
    simpa using e
end Go.Proofs.YtpgmlbdfmcbgoaaDoor
