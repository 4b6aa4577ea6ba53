/-
  Proved: the walk of the law LexBlanks: it answers true and changes nothing that was there. Conditions: the listed variables lie as they should.
-/
import Derived.Test.YtpifbpfmjmcchaaDoorRexEnds
import Derived.Test.YtpifbpfmjmcchaaDoorLexKnownB
namespace Go.Proofs.YtpifbpfmjmcchaaDoor
open Go Go.RowKit GlyphMath LexMath

/-- What the statements' own Tokens answers of any text. -/
theorem rtokens_any (s : ByteArray) (w : World) (hT : Tabs w) :
    Calls Tryd.prog 11 #[.string s] w fun e w' => ∃ v a f, e = .returned (.tuple #[v, .int .i64 a, .int .i64 f]) ∧ Below w.heap.size w w' ∧
      (f = 0 → isText s = true ∧ ∃ ts X us F, tokensL s.size ((letters s).length + 1) (letters s) [] = .ok ts ∧ TokO w' w.heap.size X v us F ts) := by
  by_cases hs : s.size ≤ 2000
  · cases ht : isText s with
    | false => exact (rtokens_bad s w hs ht hT).mono fun e w' ⟨he, hb⟩ => ⟨_, _, _, he, hb, fun h => absurd h (by decide)⟩
    | true =>
      refine (rtokens_in s w hs ht hT).mono fun e w' h => ?_
      cases hm : tokensL s.size ((letters s).length + 1) (letters s) [] with
      | error a =>
        obtain ⟨n, c⟩ := a
        rw [hm] at h
        obtain ⟨hc, he, hb⟩ := h
        exact ⟨_, _, _, he, hb, fun h => absurd h (by rcases hc with rfl | rfl <;> decide)⟩
      | ok ts =>
        rw [hm] at h
        obtain ⟨v, X, us, F, he, ho, hb⟩ := h
        exact ⟨_, _, _, he, hb, fun _ => ⟨rfl, ts, X, us, F, rfl, ho⟩⟩
  · exact (rtokens_long s w (by omega)).mono fun e w' ⟨he, hb⟩ => ⟨_, _, _, he, hb, fun h => absurd h (by decide)⟩

theorem known_drawn {D : Nat → Prop} {a w : World} (h : Kept D a w) (m : Nat) : Kept D a (w.drewN m) := ⟨h.os, h.tape, h.output, h.size, h.block⟩
theorem blT_le (s : ByteArray) (k : Nat) (hs : s.size ≤ 1000) (hk : k ≤ 20) : (blT s k).size ≤ 1020 := by rw [blT_size]; omega

set_option maxHeartbeats 4000000 in
set_option maxRecDepth 100000 in
theorem blanks_law (s : ByteArray) (n : Int) (w : World) (hS : Signs w) (hT : Tabs w) :
    Calls Tryd.prog 4 #[.string s, .int .i64 n] w fun e w' => e = .returned (.bool true) ∧ Below w.heap.size w w' := by
  have HR := Lib.hid (rtokens_any s w hT)
  have HSG := Lib.hid hS
  clear hS hT
  by_cases hsz : 1000 < s.size
  · have hszi : (1000 : Int) < (s.size : Int) := by omega
    clear hsz
    go_enter Tryd.func4, Tryd.ntmps4
    go_wp2_with fail
    refine HR.out.mono ?_
    rintro e w1 ⟨v, a, f, rfl, hb, -⟩
    have HB := Lib.hid hb
    clear hb
    go_wp2_with fail
    go_ret
    exact ⟨rfl, HB.out⟩
  have hszi : ¬ (1000 : Int) < (s.size : Int) := by omega
  go_enter Tryd.func4, Tryd.ntmps4
  go_wp2_with fail
  refine HR.out.mono ?_
  rintro e w1 ⟨v, a, f, rfl, hb, hok⟩
  have HB := Lib.hid hb
  have HOK := Lib.hid hok
  clear hb hok
  by_cases hf : f = 0
  case neg =>
    have hfi : (f != 0) = true := by simpa using hf
    clear hf
    go_wp2_with fail
    go_ret
    exact ⟨rfl, HB.out⟩
  subst hf
  by_cases h0 : n < 0
  · go_wp2_with fail
    go_ret
    exact ⟨rfl, HB.out⟩
  by_cases h20 : 20 < n
  · go_wp2_with fail
    go_ret
    exact ⟨rfl, HB.out⟩
  obtain ⟨ht, ts, X, us, F, hm, ho⟩ := HOK.out rfl
  obtain ⟨k0, rfl⟩ : ∃ k : Nat, n = (k : Int) := ⟨n.toNat, by omega⟩
  have hk20 : k0 ≤ 20 := by omega
  have hmm := blanks_model ht k0 hm
  have htx := (blT_text ht k0).1
  have HM := Lib.hid (And.intro hmm (And.intro htx (And.intro hk20 (show s.size ≤ 1000 by omega))))
  have HO := Lib.hid ho
  obtain ⟨p, c, hv, hat⟩ := ho.at
  subst hv
  have HLEN := Lib.hid (show ts.length ≤ maxLen from by
    rcases ho.own.2 with ⟨_, h0⟩ | ⟨_, cap, _, _, _, _, hle, hmx, _⟩
    · omega
    · omega)
  have HAT := Lib.hid hat
  have HFAR := Lib.hid ho.far
  have HLE := Lib.hid (tokensL_at _ _ _ _ hm (fun _ h => by cases h))
  clear hmm htx hk20 hsz HOK hm ho hat ht
  go_wp2_with fail
  go_loopw [8, 9] (fun v i wr => ∃ k : Nat, i = .int .i64 (k : Int) ∧ k ≤ k0 ∧ v = .string (blT s k) ∧ Below w1.heap.size w1 wr) (fun _ i _ => k0 - (intOf i).toNat)
  case atStart => exact ⟨0, rfl, Nat.zero_le _, rfl, Below.refl _ _⟩
  case round =>
    obtain ⟨k, rfl, hk, rfl, hbr⟩ := hrel
    have HBR := Lib.hid hbr
    by_cases hlt : k < k0
    · have hsz := blT_le s k HM.out.2.2.2 (by have := HM.out.2.2.1; omega)
      obtain ⟨S, hSe⟩ : ∃ S, blT s k = S := ⟨_, rfl⟩
      rw [hSe] at hsz ⊢
      have HSE := Lib.hid hSe
      have HK := Lib.hid hlt
      have hk0 : (k : Int) < (k0 : Int) := by omega
      have hk1 : (k : Int) + 1 ≤ 9223372036854775807 := by omega
      have s1 : ¬ (9223372036854775807 : Int) < 1 + (S.size : Int) := by omega
      by_cases he : k % 2 = 0
      · have hr : (k : Int).tmod 2 = 0 := by rw [Int.tmod_eq_emod_of_nonneg (by omega)]; omega
        have HE := Lib.hid (show blB k = ⟨#[32]⟩ by unfold blB; rw [if_pos he])
        clear hbr hlt hk hsz hSe he
        go_wp2_with fail
        exact ⟨⟨k + 1, by simp, HK.out, by rw [blT, HSE.out, HE.out], HBR.out.alloc HBR.out.size _⟩, by have := HK.out; simp [intOf]; omega⟩
      · have hr : (k : Int).tmod 2 = 1 := by rw [Int.tmod_eq_emod_of_nonneg (by omega)]; omega
        have HE := Lib.hid (show blB k = ⟨#[9]⟩ by unfold blB; rw [if_neg he])
        clear hbr hlt hk hsz hSe he
        go_wp2_with fail
        exact ⟨⟨k + 1, by simp, HK.out, by rw [blT, HSE.out, HE.out], HBR.out.alloc HBR.out.size _⟩, by have := HK.out; simp [intOf]; omega⟩
    · obtain rfl : k = k0 := by omega
      have hk0 : ¬ (k : Int) < (k : Int) := by omega
      have hsz := blT_le s k HM.out.2.2.2 HM.out.2.2.1
      have hsgw : Signs wr := (HSG.out.kept (D := fun _ => False) (Kept.of_below HB.out) (fun h => h)).kept (D := fun _ => False) (Kept.of_below hbr) (fun h => h)
      have htk := tokens_in (blT s k) wr (by omega) HM.out.2.1 hsgw
      rw [HM.out.1] at htk
      have HTK := Lib.hid htk
      have HSGW := Lib.hid hsgw
      obtain ⟨S, hSe⟩ : ∃ S, blT s k = S := ⟨_, rfl⟩
      rw [hSe] at HTK hsz ⊢
      have hss : ((S.size : Int) != (S.size : Int)) = false := by simp
      clear hbr hlt hk hSe htk hsgw
      go_wp2_with fail
      refine HTK.out.mono ?_
      rintro e w4 ⟨v4, X4, us4, F4, rfl, hO4, hb4⟩
      obtain ⟨p4, c4, hv4, hat4⟩ := hO4.at
      subst hv4
      rw [List.length_map]
      have HL := Lib.hid (show ∀ (i : Nat) (t : Tk), ts[i]? = some t → ∃ u, WordV w4 F u t.word ∧ TokC w4 p i t.kind ⟨t.text.toArray⟩ u t.at_ from fun i t hi => by
        obtain ⟨u, -, h1, h2⟩ := HAT.out i t hi
        have hbb : Below w1.heap.size w1 w4 := HBR.out.trans (hb4.mono HBR.out.size)
        exact ⟨u, h1.same fun g hg => hbb.block g (HFAR.out g hg).2.1, h2.below hbb⟩)
      have HM4 := Lib.hid (show ∀ (i : Nat) (t : Tk), ts[i]? = some t → ∃ u, WordV w4 F4 u t.word ∧ TokC w4 p4 i t.kind ⟨t.text.toArray⟩ u (t.at_ + k) from fun i t hi => by
        obtain ⟨u, -, h1, h2⟩ := hat4 i (sh k t) (by rw [List.getElem?_map, hi]; rfl)
        exact ⟨u, h1, h2⟩)
      have HB4 := Lib.hid (HB.out.trans ((HBR.out.trans (hb4.mono HBR.out.size)).mono HB.out.size))
      have HKN := Lib.hid (fun m => known_any (w4.drewN m) (HSGW.out.kept (D := fun _ => False) (known_drawn (Kept.of_below hb4) m) (fun h => h)))
      obtain ⟨N, hN⟩ : ∃ N, ts.length = N := ⟨_, rfl⟩
      have HN := Lib.hid hN
      have hcap := HLEN.out
      rw [hN] at hcap
      have hN0 : (N : Int) ≤ 2 ^ 63 - 1 := by unfold maxLen at hcap; omega
      rw [hN]
      have hbe : ((N : Int) != (N : Int)) = false := by simp
      have hk20 : (k : Int) ≤ 20 := by have := HM.out.2.2.1; omega
      have hkk0 : (0 : Int) ≤ (k : Int) := by omega
      clear hO4 hat4 hb4 hN hcap hsz
      go_wp2_with fail
      go_loopw [13] (fun i wq => ∃ j m, j ≤ N ∧ i = .int .i64 (j : Int) ∧ wq = w4.drewN m) (fun i _ => N - (intOf i).toNat)
      case atStart => exact ⟨0, 0, by omega, rfl, rfl⟩
      case round =>
        obtain ⟨j, m, hj, rfl, rfl⟩ := hrel
        by_cases hlt : j < N
        · obtain ⟨t, ht⟩ : ∃ t, ts[j]? = some t := ⟨_, List.getElem?_eq_getElem (by rw [HN.out]; exact hlt)⟩
          obtain ⟨u, hwu, b, o, rfl, a0, a1, a2, a3⟩ := HL.out j t ht
          obtain ⟨v, hwv, b', o', rfl, d0, d1, d2, d3⟩ := HM4.out j t ht
          have HC := Lib.hid (fun n => rparts_yes hwv hwu n)
          have hat0 := HLE.out t (List.mem_of_getElem? ht)
          have hj0 : (j : Int) < (N : Int) := by omega
          have HKK := Lib.hid hlt
          have hs1000 := HM.out.2.2.2
          rw [Int.natCast_add] at d3
          obtain ⟨T, hT⟩ : ∃ T : ByteArray, ⟨t.text.toArray⟩ = T := ⟨_, rfl⟩
          obtain ⟨kd, hkd⟩ : ∃ kd, t.kind = kd := ⟨_, rfl⟩
          obtain ⟨A, hA⟩ : ∃ A : Int, (t.at_ : Int) = A := ⟨_, rfl⟩
          have hA1 : A ≤ 1000 := by omega
          have hA0 : 0 ≤ A := by omega
          rw [hT] at a1 d1
          rw [hkd] at a0 d0
          rw [hA] at a3 d3
          have e9 : IntKind.i64.wrap (A + (k : Int)) = A + (k : Int) := IntWalk.i64_in _ ⟨by omega, by omega⟩
          clear hT hkd hA hlt hj hwu hwv hat0 hs1000
          have HCC := Lib.hid (show ∀ n, Calls Tryd.prog 9 #[v, u] ((w4.drewN m).drewN n) fun e w' => e = .returned (.bool true) ∧ ∃ m', w' = ((w4.drewN m).drewN n).drewN m' from fun n => by
            rw [World.drewN_drewN]
            exact HC.out (m + n))
          have a0 := (show (w4.drewN m).cell? _ = _ from a0)
          have a1 := (show (w4.drewN m).cell? _ = _ from a1)
          have a2 := (show (w4.drewN m).cell? _ = _ from a2)
          have a3 := (show (w4.drewN m).cell? _ = _ from a3)
          have d0 := (show (w4.drewN m).cell? _ = _ from d0)
          have d1 := (show (w4.drewN m).cell? _ = _ from d1)
          have d2 := (show (w4.drewN m).cell? _ = _ from d2)
          have d3 := (show (w4.drewN m).cell? _ = _ from d3)
          obtain ⟨wz, hwz⟩ : ∃ wz, w4.drewN m = wz := ⟨_, rfl⟩
          have HWZ := Lib.hid hwz
          rw [hwz] at HCC a0 a1 a2 a3 d0 d1 d2 d3 ⊢
          clear hwz
          go_wp2_with fail
          go_quiet ((go_at_call 9; exact Calls.quiet_of (HCC.out _)))
          go_wp2_with fail
          exact ⟨⟨j + 1, _, HKK.out, by go_num, by rw [← HWZ.out, World.drewN_drewN]⟩, by have := HKK.out; simp [intOf]; omega⟩
        · have hj0 : ¬ (j : Int) < (N : Int) := by omega
          clear hlt hj
          go_wp2_with fail
          refine (HKN.out m).mono ?_
          rintro e w5 ⟨rfl, hb5⟩
          have HB5 := Lib.hid hb5
          clear hb5
          go_wp2_with fail
          go_ret
          exact ⟨rfl, (HB4.out.trans (show Below w.heap.size w4 (w4.drewN m) from ⟨rfl, rfl, rfl, Nat.le_refl _, fun _ _ => rfl⟩)).trans (HB5.out.mono HB4.out.size)⟩
end Go.Proofs.YtpifbpfmjmcchaaDoor
