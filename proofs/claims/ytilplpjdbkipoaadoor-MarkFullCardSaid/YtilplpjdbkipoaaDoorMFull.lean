/-
  Proved: the law MarkFull answers true. Conditions: the library's table and its two sentinel errors read as laid.
-/
import Derived.Test.YtilplpjdbkipoaaDoorMarkSt
namespace Go.Proofs.YtilplpjdbkipoaaDoor.MarkMath
open Go NetMath DiskMath SumMath SpanMath

def fullM (k : Nat) (out : ByteArray) : Mk := ⟨0, (k : Int), true, 0, out⟩
theorem i64_0 : I64 0 := ⟨by decide, by decide⟩
theorem fullM_is (k : Nat) (h : k < 1000) (out : ByteArray) : (fullM k out).is = true := by
  have h1 : (k : Int) ≤ 2147483647 := by omega
  simp [Mk.is, isGenB, fullM, h1]
structure FullS (n : Nat) (out : ByteArray) (d : Dk) (ms : List Mk) (z k : Nat) : Prop where
  laid : Laid d 0 (2 * room d) ms z
  stop : Stop d z
  down : d.down = false
  armed : d.armed = false
  len : d.s.length = n
  cnt : ms.length = k
  pos : 2 * room d + 2 * k ≤ z
  ops : d.n ≤ 1000 * k
  pend : d.p = []
theorem fullS_new (n : Nat) (out : ByteArray) : FullS n out (Dk.new n) [] (2 * room (Dk.new n)) 0 := by
  have hl : (Dk.new n).s.length = n := by simp [Dk.new]
  have hr : 2 * room (Dk.new n) ≤ n := by unfold room; rw [hl]; omega
  refine ⟨rfl, ?_, rfl, rfl, hl, rfl, Nat.le_refl _, Nat.zero_le _, rfl⟩
  by_cases h : 2 * room (Dk.new n) = n
  · exact .inl (by rw [hl]; exact h)
  · exact .inr (new_la n _ (by omega))
theorem fullM_raw (k : Nat) (hk : k < 60) (out : ByteArray) (ho : out.size ≤ 40) : 8 ≤ (fullM k out).raw.length ∧ (fullM k out).raw.length ≤ 69 := by
  have h1 := raw_len (fullM k out) ⟨by show _ ≤ (k : Int); omega, by show (k : Int) ≤ _; omega⟩ i64_0 (by show out.size ≤ _; omega)
  have h2 := raw_99 (fullM k out) (by show (0 : Int) ≤ k; omega) (by show (k : Int) < 100; omega) i64_0 (by show out.size < 100; omega)
  simp only [fullM] at h1 h2 ⊢
  omega
theorem FullS.append {n : Nat} {out : ByteArray} {d : Dk} {ms : List Mk} {z k : Nat} (h : FullS n out d ms z k) (hk : k < 60) (ho : out.size ≤ 40) (hn : n ≤ 100) :
    (markAppend d z (fullM k out) = (0, 1, d) ∧ z = n ∧ 1 ≤ k ∨ markAppend d z (fullM k out) = (0, 4, d) ∧ z < n ∧ (32 ≤ n → 1 ≤ k)) ∨
    ∃ (z' : Nat) (d' : Dk), markAppend d z (fullM k out) = ((z' : Int), 0, d') ∧ z' ≤ n ∧ FullS n out d' (ms ++ [fullM k out]) z' (k + 1) ∨ n < 32 := by
  have hraw := fullM_raw k hk out ho
  have hne : need (fullM k out).raw.length = 1 + SpanMath.cnt (fullM k out).raw.length := rfl
  have hc1 : 1 ≤ SpanMath.cnt (fullM k out).raw.length := by unfold SpanMath.cnt; omega
  have hc2 : SpanMath.cnt (fullM k out).raw.length ≤ 5 := by unfold SpanMath.cnt; omega
  have hz := h.laid.fits (by unfold room; omega)
  have hpos := h.pos
  have hlen := h.len
  have hz0 : k = 0 → z = 2 * room d := fun e => by
    have h1 := h.laid
    obtain rfl : ms = [] := List.eq_nil_of_length_eq_zero (by rw [h.cnt, e])
    exact h1.symm
  have hroom : 2 * room d ≤ 3 * n / 4 := by unfold room; rw [hlen]; omega
  by_cases h32 : n < 32
  · exact .inr ⟨0, d, .inr h32⟩
  · by_cases h1 : z = n
    · refine .inl (.inl ⟨append_out d _ _ (.inr (.inr (by omega))), h1, by
        rcases Nat.eq_zero_or_pos k with e | e
        · have := hz0 e; omega
        · exact e⟩)
    · by_cases h2 : z + need (fullM k out).raw.length ≤ n
      · refine .inr ⟨z + need (fullM k out).raw.length, appended d z (fullM k out), .inl ⟨append_well d z _ h.down h.armed (fullM_is k (by omega) out) (by omega) (by omega), h2, ?_⟩⟩
        have hl := h.laid.append (fullM k out) (fullM_is k (by omega) out) i64_0 (by show out.size ≤ _; omega) rfl (by omega)
        have hops := appended_n d z (fullM k out)
        exact ⟨by rw [appended_room]; exact hl.1, hl.2, by rw [appended_down]; exact h.down, by rw [appended_armed]; exact h.armed, by rw [appended_len]; exact hlen, by simp [h.cnt], by rw [appended_room]; omega, by have := h.ops; omega, rfl⟩
      · exact .inl (.inr ⟨append_full d z _ (fullM_is k (by omega) out) (by omega) (by omega) (by omega), by omega, fun _ => by
          rcases Nat.eq_zero_or_pos k with e | e
          · have := hz0 e; omega
          · exact e⟩)
theorem FullS.scan {n : Nat} {out : ByteArray} {d : Dk} {ms : List Mk} {z k : Nat} (h : FullS n out d ms z k) : markScan d 0 = (ms, z) ∧ z ≤ n := by
  have hz := h.laid.fits (by unfold room; omega)
  exact ⟨h.laid.all (h.stop.none hz 0) rfl, by have := h.len; omega⟩
end Go.Proofs.YtilplpjdbkipoaaDoor.MarkMath
namespace Go.Proofs.YtilplpjdbkipoaaDoor
open Go Go.RowKit NetMath NetMem MarkMath SpanMath DiskMath

def RelFu (n : Nat) (out : ByteArray) (w : World) (g : Nat) (a m i : Value) (wr : World) : Prop :=
  ∃ d ms z k, FullS n out d ms z k ∧ k ≤ 60 ∧ a = .int .i64 (z : Int) ∧ m = .int .i64 (k : Int) ∧ i = .int .i64 (k : Int) ∧ St w wr (.pointer (some ⟨g, 0, none⟩)) d []

set_option maxHeartbeats 8000000 in
set_option maxRecDepth 100000 in
theorem mfull_in (n : Nat) (out : ByteArray) (h32 : 32 ≤ n) (h100 : n ≤ 100) (ho : out.size ≤ 40) (w : World) (hg : NetP.Glob w) :
    Calls Tryd.prog 6 #[.int .i64 (n : Int), .string out] w fun e w' => e = .returned (.bool true) ∧ Below w.heap.size w w' := by
  have HH := Lib.hid (And.intro h32 (And.intro h100 (And.intro ho hg)))
  have n0 : (32 : Int) ≤ (n : Int) := by omega
  have n1 : (n : Int) ≤ 100 := by omega
  have o1 : (out.size : Int) ≤ 40 := by omega
  clear h32 h100 ho hg
  go_enter Tryd.func6, Tryd.ntmps6
  go_wp2_with fail
  refine (new_st n (by have := HH.out.2.1; omega) _ rfl w).mono ?_
  rintro e w1 ⟨g, rfl, h1⟩
  have H1 := Lib.hid h1
  clear h1
  go_wp2_with fail
  go_loopw [6, 7, 8] (fun a m i wr => RelFu n out w g a m i wr) (fun _ _ i _ => 60 - (intOf i).toNat)
  case atStart =>
    refine ⟨Dk.new n, [], _, 0, fullS_new n out, by omega, ?_, rfl, rfl, H1.out⟩
    congr 1
    have : room (Dk.new n) = n * 3 / 8 := by unfold room; simp [Dk.new]
    rw [this]; omega
  case round =>
    obtain ⟨d, ms, z, k, hF, hk, rfl, rfl, rfl, hst⟩ := hrel
    have hzn := hF.scan
    have hk13 : k < 60 := by have := hF.pos; have := HH.out.2.1; have := hF.len; have h3 : n * 3 / 8 = room d := by unfold room; rw [hF.len]
                             omega
    have hsc := hF.scan
    have hst0 := hst
    have HD := Lib.hid (show d.n + 2000000 < 4611686018427387904 ∧ d.p.length + 2000000 < 4294967296 from ⟨by have := hF.ops; omega, by rw [hF.pend]; simp⟩)
    have HS := Lib.hid (And.intro hst (And.intro hsc.1 (And.intro hF.cnt hF)))
    have hz0 : (z : Int) ≤ 100 := by have := HH.out.2.1; omega
    have hz1 : (z : Int) ≤ (n : Int) := by omega
    have hk0 : (k : Int) < 60 := by omega
    obtain ⟨Z, hZ⟩ : ∃ Z : Int, Z = (z : Int) := ⟨_, rfl⟩
    obtain ⟨K, hK⟩ : ∃ K : Int, K = (k : Int) := ⟨_, rfl⟩
    have hk2 : 0 ≤ K := by omega
    have hz2 : 0 ≤ Z := by omega
    rcases hF.append hk13 HH.out.2.2.1 HH.out.2.1 with (⟨ha, hb, hc⟩ | ⟨ha, hb, hc⟩) | ⟨z', d', ⟨ha, hb, hc⟩ | hc⟩
    · have HA := Lib.hid (show markAppend d Z ⟨0, K, true, 0, out⟩ = (0, 1, d) from by rw [hZ, hK]; exact ha)
      have hzz : Z = (n : Int) := by omega
      have hkk : 1 ≤ K := by omega
      have hbk : (((ms.length : Nat) : Int) == K) = true := by rw [hK, hF.cnt]; simp
      have HL := Lib.hid (show (z : Int) = Z from hZ.symm)
      rw [← hZ, ← hK]
      rw [← hZ] at hz0 hz1
      rw [← hK] at hk0
      clear hst hst0 hsc hzn hF hk hk13 ha hb hc hZ hK
      subst hzz
      have hbe : ((n : Int) != (n : Int)) = false := by simp
      go_wp2_with fail
      refine (append_st HS.out.1 HH.out.2.2.2 _ 0 K true 0 out i64_0 (by have := HH.out.2.2.1; omega) HA.out HD.out.1 HD.out.2).mono ?_
      rintro e w2 ⟨rfl, h2⟩
      have H2 := Lib.hid h2
      clear h2
      go_wp2_with fail
      refine (scan_st H2.out HH.out.2.2.2 0 HS.out.2.1 HL.out).mono ?_
      rintro e w3 ⟨q, c, rfl, -, -, -, h3, -⟩
      have H3 := Lib.hid h3
      clear h3
      go_wp2_with fail
      refine (known_any _ (HH.out.2.2.2.below H3.out.old)).mono ?_
      rintro e w4 ⟨rfl, hb4⟩
      have HB := Lib.hid (H3.out.below hb4).old
      clear hb4
      go_wp2_with fail
      go_ret
      exact ⟨rfl, HB.out⟩
    · have HA := Lib.hid (show markAppend d Z ⟨0, K, true, 0, out⟩ = (0, 4, d) from by rw [hZ, hK]; exact ha)
      have hc' := hc HH.out.1
      have hkk : 1 ≤ K := by omega
      have hbk : (((ms.length : Nat) : Int) == K) = true := by rw [hK, hF.cnt]; simp
      have HL := Lib.hid (show (z : Int) = Z from hZ.symm)
      rw [← hZ, ← hK]
      rw [← hZ] at hz0 hz1
      rw [← hK] at hk0
      clear hst hst0 hsc hzn hF hk hk13 ha hb hc hc' hZ hK
      go_wp2_with fail
      refine (append_st HS.out.1 HH.out.2.2.2 _ 0 K true 0 out i64_0 (by have := HH.out.2.2.1; omega) HA.out HD.out.1 HD.out.2).mono ?_
      rintro e w2 ⟨rfl, h2⟩
      have H2 := Lib.hid h2
      clear h2
      go_wp2_with fail
      refine (scan_st H2.out HH.out.2.2.2 0 HS.out.2.1 HL.out).mono ?_
      rintro e w3 ⟨q, c, rfl, -, -, -, h3, -⟩
      have H3 := Lib.hid h3
      clear h3
      go_wp2_with fail
      refine (known_any _ (HH.out.2.2.2.below H3.out.old)).mono ?_
      rintro e w4 ⟨rfl, hb4⟩
      have HB := Lib.hid (H3.out.below hb4).old
      clear hb4
      go_wp2_with fail
      go_ret
      exact ⟨rfl, HB.out⟩
    · have HA := Lib.hid (show markAppend d Z ⟨0, K, true, 0, out⟩ = ((z' : Int), 0, d') from by rw [hZ, hK]; exact ha)
      have HC := Lib.hid hc
      have HKK := Lib.hid (And.intro hk13 hK)
      rw [← hZ, ← hK]
      rw [← hZ] at hz0 hz1
      rw [← hK] at hk0
      clear hst hst0 hsc hzn hF hk hk13 ha hb hc hZ hK
      go_wp2_with fail
      refine (append_st HS.out.1 HH.out.2.2.2 _ 0 K true 0 out i64_0 (by have := HH.out.2.2.1; omega) HA.out HD.out.1 HD.out.2).mono ?_
      rintro e w2 ⟨rfl, h2⟩
      have H2 := Lib.hid h2
      clear h2
      go_wp2_with fail
      refine ⟨⟨d', ms ++ [fullM k out], z', k + 1, HC.out, by have := HKK.out; omega, rfl, ?_, ?_, H2.out⟩, ?_⟩
      · rw [HKK.out.2]; rfl
      · rw [HKK.out.2]; rfl
      · rw [HKK.out.2]; have := HKK.out.1; simp [intOf]; omega
    · exfalso
      have := HH.out.1
      omega

/-- THE LAW's WALK. -/
theorem mfull_law (z : Int) (out : ByteArray) (w : World) (hg : NetP.Glob w) :
    Calls Tryd.prog 6 #[.int .i64 z, .string out] w fun e w' => e = .returned (.bool true) ∧ Below w.heap.size w w' := by
  by_cases h1 : z < 32
  · clear hg
    go_enter Tryd.func6, Tryd.ntmps6
    go_wp2_with fail
    go_ret
    exact ⟨rfl, Below.refl _ _⟩
  · have h1' : 32 ≤ z := by omega
    by_cases h2 : 100 < z
    · clear hg h1
      go_enter Tryd.func6, Tryd.ntmps6
      go_wp2_with fail
      go_ret
      exact ⟨rfl, Below.refl _ _⟩
    · have h2' : z ≤ 100 := by omega
      by_cases h3 : (40 : Int) < (out.size : Int)
      · clear hg h1 h2
        go_enter Tryd.func6, Tryd.ntmps6
        go_wp2_with fail
        go_ret
        exact ⟨rfl, Below.refl _ _⟩
      · obtain ⟨n, rfl⟩ := Int.eq_ofNat_of_zero_le (show 0 ≤ z by omega)
        exact mfull_in n out (by omega) (by omega) (by omega) w hg
end Go.Proofs.YtilplpjdbkipoaaDoor
