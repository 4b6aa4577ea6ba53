/-
  Proved: the law MarkGens answers true. Conditions: the library's table and its two sentinel errors read as laid.
-/
import Derived.Test.YtilplpjdbkipoaaDoorMarkSt
import Derived.Test.YtilplpjdbkipoaaDoorMarkArgs
namespace Go.Proofs.YtilplpjdbkipoaaDoor.MarkMath
open Go NetMath DiskMath SumMath SpanMath

/-- The marks that the law appends. -/
def genM (g : Int) (i : Nat) (y : AnsV) : Mk := ⟨g, (i : Int), true, y.st, y.out⟩
theorem genM_is (g : Int) (h0 : 0 ≤ g) (h1 : g ≤ 1000) (i : Nat) (h : i < 100) (y : AnsV) : (genM g i y).is = true := by
  have h2 : (i : Int) ≤ 2147483647 := by omega
  have h3 : g ≤ 2147483646 := by omega
  simp [Mk.is, isGenB, genM, h0, h2, h3]
theorem genM_raw (g : Int) (i : Nat) (hi : i < 100) (y : AnsV) (hy : I64 y.st) (ho : y.out.size ≤ 60) : 8 ≤ (genM g i y).raw.length ∧ (genM g i y).raw.length ≤ 89 ∧ 1 ≤ cnt (genM g i y).raw.length ∧ cnt (genM g i y).raw.length ≤ 6 := by
  have h1 := raw_len (genM g i y) ⟨by show _ ≤ (i : Int); omega, by show (i : Int) ≤ _; omega⟩ hy (by show y.out.size ≤ _; omega)
  have h2 := raw_99 (genM g i y) (by show (0 : Int) ≤ i; omega) (by show (i : Int) < 100; omega) hy (by show y.out.size < 100; omega)
  simp only [genM] at h1 h2 ⊢
  unfold cnt
  omega
/-- The marks of a list of answers, numbered from i on. -/
def genL (g : Int) : Nat → List AnsV → List Mk
  | _, [] => []
  | i, y :: l => genM g i y :: genL g (i + 1) l
theorem genL_snoc (g : Int) : ∀ (i : Nat) (l : List AnsV) (y : AnsV), genL g i (l ++ [y]) = genL g i l ++ [genM g (i + l.length) y]
  | i, [], y => rfl
  | i, x :: l, y => by
    simp only [List.cons_append, genL, List.length_cons]
    rw [genL_snoc g (i + 1) l y, show i + 1 + l.length = i + (l.length + 1) by omega]
theorem genL_len' (g : Int) : ∀ (i : Nat) (l : List AnsV), (genL g i l).length = l.length
  | _, [] => rfl
  | i, x :: l => by simp [genL, genL_len' g (i + 1) l]
theorem genL_at (g : Int) : ∀ (i : Nat) (l : List AnsV) (k : Nat) (h : k < l.length), (genL g i l)[k]'(by rw [genL_len']; exact h) = genM g (i + k) l[k]
  | i, y :: l, 0, _ => rfl
  | i, y :: l, k + 1, h => by
    simp only [genL, List.getElem_cons_succ]
    rw [genL_at g (i + 1) l k (by simpa using h), show i + 1 + k = i + (k + 1) by omega]
theorem genL_len (g : Int) : ∀ (i : Nat) (l : List AnsV), (genL g i l).length = l.length
  | _, [] => rfl
  | i, x :: l => by simp [genL, genL_len g (i + 1) l]
theorem take_snoc {α : Type} (l : List α) (k : Nat) (h : k < l.length) : l.take (k + 1) = l.take k ++ [l[k]] := by
  rw [List.take_add_one]; simp [h]
/-- The journal of a disk of 400 sectors. -/
structure JourS (d : Dk) (g : Int) (ms : List Mk) (z k : Nat) : Prop where
  laid : Laid d g 300 ms z
  stop : ms = [] ∨ Stop d z
  down : d.down = false
  armed : d.armed = false
  len : d.s.length = 400
  pos : z ≤ 300 + 7 * k
  ops : d.n ≤ 1000 * k
  pend : d.p.length ≤ 1000 * k
theorem jour_room {d : Dk} (h : d.s.length = 400) : room d = 150 := by unfold room; rw [h]
theorem new_len (n : Nat) : (Dk.new n).s.length = n := by simp [Dk.new]
theorem jourS_new (g : Int) : JourS (Dk.new 400) g [] 300 0 := ⟨rfl, .inl rfl, rfl, rfl, new_len 400, by omega, Nat.zero_le _, Nat.zero_le _⟩
/-- The journal begins anew. -/
theorem JourS.anew {d : Dk} {g g' : Int} {ms : List Mk} {z k : Nat} (h : JourS d g ms z k) (h2 : k ≤ 20) : JourS d g' [] 300 k := ⟨rfl, .inl rfl, h.down, h.armed, h.len, by omega, h.ops, h.pend⟩
theorem JourS.append {d : Dk} {g : Int} {ms : List Mk} {z k : Nat} (h : JourS d g ms z k) (hk : z ≤ 300 + 7 * 9) (g0 : 0 ≤ g) (g1 : g ≤ 1000) (i : Nat) (hi : i < 100) (y : AnsV) (hy : I64 y.st) (ho : y.out.size ≤ 60) (hl : 300 ≤ z) :
    ∃ (z' : Nat) (d' : Dk), markAppend d z (genM g i y) = ((z' : Int), 0, d') ∧ z' ≤ z + 7 ∧ 300 ≤ z' ∧ JourS d' g (ms ++ [genM g i y]) z' (k + 1) := by
  obtain ⟨r1, r2, r3, r4⟩ := genM_raw g i hi y hy ho
  have hne : need (genM g i y).raw.length = 1 + cnt (genM g i y).raw.length := rfl
  have hroom := jour_room h.len
  have hlen := h.len
  have hap := h.laid.append (genM g i y) (genM_is g g0 g1 i hi y) hy (by show y.out.size ≤ _; omega) rfl (by omega)
  have hops := appended_n d z (genM g i y)
  refine ⟨z + need (genM g i y).raw.length, appended d z (genM g i y), append_well d z _ h.down h.armed (genM_is g g0 g1 i hi y) (by omega) (by omega), by omega, by omega, ?_⟩
  exact ⟨hap.1, .inr hap.2, by rw [appended_down]; exact h.down, by rw [appended_armed]; exact h.armed, by rw [appended_len]; exact hlen, by have := h.pos; omega, by have := h.ops; omega, by rw [appended_p]; exact Nat.zero_le _⟩
theorem JourS.scan {d : Dk} {g : Int} {ms : List Mk} {z k : Nat} (h : JourS d g ms z k) (hm : ms ≠ []) (g0 : 0 ≤ g) (g1 : g ≤ 1000) : markScan d g = (ms, z) ∧ ∀ g', g' ≠ g → markScan d g' = ([], 300) := by
  have hroom := jour_room h.len
  have hla : Laid d g (2 * room d) ms z := by rw [hroom]; exact h.laid
  have hz := hla.fits (by unfold room; omega)
  have hst : Stop d z := h.stop.resolve_left hm
  refine ⟨hla.all (hst.none hz g) (by simp [isGenB]; omega), fun g' hg' => ?_⟩
  have e : 300 = 2 * room d := by rw [hroom]
  rw [e]
  refine scan_none ?_
  match ms, hm, hla with
  | m :: l, _, hla => exact hla.other g' hg'
end Go.Proofs.YtilplpjdbkipoaaDoor.MarkMath

namespace Go.Proofs.YtilplpjdbkipoaaDoor
open Go Go.RowKit NetMath NetMem MarkMath SpanMath DiskMath

/-- The way through the law's first loop. -/
def GenS (a b : List AnsV) (d : Dk) (z k : Nat) : Prop := 300 ≤ z ∧ (k ≤ a.length ∧ JourS d 0 (genL 0 0 (a.take k)) z k ∧ z ≤ 300 + 7 * k ∨ a.length < k ∧ JourS d 1 (genL 1 a.length (b.take (k - a.length))) z k ∧ z ≤ 300 + 7 * (k - a.length))
def RelGe (a b : List AnsV) (w : World) (g : Nat) (v i : Value) (wr : World) : Prop :=
  ∃ d z k, GenS a b d z k ∧ k ≤ a.length + b.length ∧ v = .int .i64 (z : Int) ∧ i = .int .i64 (k : Int) ∧ St w wr (.pointer (some ⟨g, 0, none⟩)) d []

def RelWa (L : List Mk) (w3 : World) (v i : Value) (wr : World) : Prop :=
  ∃ k : Nat, k ≤ L.length ∧ i = .int .i64 (k : Int) ∧ OwnM wr w3.heap.size v (L.take k) ∧ Below w3.heap.size w3 wr

set_option maxHeartbeats 8000000 in
set_option maxRecDepth 100000 in
theorem mgens_in (pa pb : Option Addr) (ca cb : Nat) (a b : List AnsV) (w : World) (h1 : AnsAt w pa a) (h2 : AnsAt w pb b) (ha : a.length ≤ 8) (hb1 : 1 ≤ b.length) (hb8 : b.length ≤ 8) (hg : NetP.Glob w) :
    Calls Tryd.prog 7 #[.slice pa a.length ca, .slice pb b.length cb] w fun e w' => e = .returned (.bool true) ∧ Below w.heap.size w w' := by
  have HH := Lib.hid (And.intro h1 (And.intro h2 (And.intro ha (And.intro hb1 (And.intro hb8 hg)))))
  obtain ⟨i0, hi0, hz0, hz1, hz2⟩ := info_parts info_mark
  have HZ := Lib.hid (And.intro hi0 (And.intro hz0 (And.intro hz1 hz2)))
  clear hi0 hz0 hz1 hz2
  have a8 : (a.length : Int) ≤ 8 := by omega
  have b1 : (1 : Int) ≤ (b.length : Int) := by omega
  have b8 : (b.length : Int) ≤ 8 := by omega
  clear h1 h2 ha hb1 hb8 hg
  go_enter Tryd.func7, Tryd.ntmps7
  go_wp2_with fail
  refine (new_st 400 (by omega) _ rfl w).mono ?_
  rintro e w1 ⟨g, rfl, h1⟩
  have H1 := Lib.hid h1
  clear h1
  go_wp2_with fail
  go_loopw [6, 7] (fun v i wr => RelGe a b w g v i wr) (fun _ i _ => a.length + b.length - (intOf i).toNat)
  case atStart => exact ⟨Dk.new 400, 300, 0, ⟨by omega, .inl ⟨by omega, jourS_new 0, by omega⟩⟩, by omega, rfl, rfl, H1.out⟩
  case round =>
    obtain ⟨d, z, k, hG, hk, rfl, rfl, hst⟩ := hrel
    by_cases hka : k < a.length
    · obtain ⟨bb, o, rfl, c0, c1, hi, hm⟩ := (HH.out.1.below hst.old) k hka
      obtain ⟨y, hy⟩ : ∃ y, y = a[k] := ⟨_, rfl⟩
      have htk := take_snoc a k hka
      rw [← hy] at c0 c1 hi htk
      obtain ⟨st, out⟩ := y
      simp only at c0 c1 hi
      have k0 : (k : Int) < (a.length : Int) := by omega
      have HK := Lib.hid (And.intro hst (And.intro hG (And.intro hi htk)))
      have HKA := Lib.hid (show k < a.length from hka)
      have e0 : ∀ O, (wr.alloc O).cell? ⟨bb, o + k * 2, none⟩ = some (.int .i64 st) := fun O => (World.cell?_alloc_lt _ _ _ (lt_of_cell c0)).trans c0
      have e1 : ∀ O, (wr.alloc O).cell? ⟨bb, o + k * 2 + 1, none⟩ = some (.string out) := fun O => (World.cell?_alloc_lt _ _ _ (lt_of_cell c1)).trans c1
      clear hst hG hi hm hy htk hk hka
      by_cases hlong : (60 : Int) < (out.size : Int)
      · go_wp2_with fail
        go_ret
        exact ⟨rfl, HK.out.1.old.trans (((Below.refl _ wr).alloc (Nat.le_refl _) _).mono HK.out.1.old.size)⟩
      · have hs60 : (out.size : Int) ≤ 60 := by omega
        obtain ⟨z', d', happ, hz7, hz3, hJ⟩ : ∃ (z' : Nat) (d' : Dk), markAppend d z (genM 0 k ⟨st, out⟩) = ((z' : Int), 0, d') ∧ z' ≤ z + 7 ∧ 300 ≤ z' ∧ JourS d' 0 (genL 0 0 (a.take (k + 1))) z' (k + 1) := by
          have hka := HKA.out
          have ha8 := HH.out.2.2.1
          rcases HK.out.2.1.2 with ⟨-, h3, h4⟩ | ⟨h3, -⟩
          · have := h3.append (by omega) (by omega) (by omega) k (by omega) ⟨st, out⟩ HK.out.2.2.1 (by simp only; omega) HK.out.2.1.1
            rw [HK.out.2.2.2, genL_snoc, List.length_take, Nat.min_eq_left (by omega), Nat.zero_add]
            exact this
          · omega
        have HD := Lib.hid (show d.n + 2000000 < 4611686018427387904 ∧ d.p.length + 2000000 < 4294967296 from by
          have hka := HKA.out
          have ha8 := HH.out.2.2.1
          rcases HK.out.2.1.2 with ⟨-, h3, h4⟩ | ⟨h3, -⟩
          · have := h3.ops; have := h3.pend; omega
          · omega)
        have HN := Lib.hid (show GenS a b d' z' (k + 1) from ⟨hz3, by
          have hka := HKA.out
          rcases HK.out.2.1.2 with ⟨-, h3, h4⟩ | ⟨h3, -⟩
          · exact .inl ⟨hka, hJ, by omega⟩
          · omega⟩)
        have HA := Lib.hid happ
        have HSA := Lib.hid (HK.out.1.below ((Below.refl _ wr).alloc (Nat.le_refl _) (.cells #[.int .i64 0, .int .i64 (k : Int), .bool true, .int .i64 st, .string out] 25)))
        clear happ hz7 hz3 hJ
        go_wp2_with fail
        refine (append_st HSA.out HH.out.2.2.2.2.2 (z : Int) 0 (k : Int) true st out HK.out.2.2.1 (by omega) HA.out HD.out.1 HD.out.2).mono ?_
        rintro e w2 ⟨rfl, h2⟩
        have H2 := Lib.hid h2
        clear h2
        go_wp2_with fail
        exact ⟨⟨d', z', k + 1, HN.out, by have := HKA.out; omega, rfl, by go_num, H2.out⟩, by have := HKA.out; simp [intOf]; omega⟩
    · have hka' : a.length ≤ k := by omega
      by_cases hkb : k < a.length + b.length
      · obtain ⟨j, hj⟩ : ∃ j, j = k - a.length := ⟨_, rfl⟩
        have hjb : j < b.length := by omega
        obtain ⟨bb, o, rfl, c0, c1, hi, hm⟩ := (HH.out.2.1.below hst.old) j hjb
        obtain ⟨y, hy⟩ : ∃ y, y = b[j] := ⟨_, rfl⟩
        have htk := take_snoc b j hjb
        rw [← hy] at c0 c1 hi htk
        obtain ⟨st, out⟩ := y
        simp only at c0 c1 hi
        have k0 : (a.length : Int) ≤ (k : Int) := by omega
        have k1 : (k : Int) < (a.length : Int) + (b.length : Int) := by omega
        have hsub : (k : Int) - (a.length : Int) = (j : Int) := by omega
        have j0 : (j : Int) < (b.length : Int) := by omega
        have HK := Lib.hid (And.intro hst (And.intro hG (And.intro hi htk)))
        have HKA := Lib.hid (show a.length ≤ k ∧ k = a.length + j ∧ j < b.length from ⟨hka', by omega, hjb⟩)
        have e0 : ∀ O, (wr.alloc O).cell? ⟨bb, o + j * 2, none⟩ = some (.int .i64 st) := fun O => (World.cell?_alloc_lt _ _ _ (lt_of_cell c0)).trans c0
        have e1 : ∀ O, (wr.alloc O).cell? ⟨bb, o + j * 2 + 1, none⟩ = some (.string out) := fun O => (World.cell?_alloc_lt _ _ _ (lt_of_cell c1)).trans c1
        clear hst hG hi hm hy htk hk hka hka' hkb hjb hj
        by_cases hlong : (60 : Int) < (out.size : Int)
        · go_wp2_with fail
          go_region
          go_wp2_with fail
          go_ret
          exact ⟨rfl, HK.out.1.old.trans ((((Below.refl _ wr).alloc (Nat.le_refl _) _).drew).mono HK.out.1.old.size)⟩
        · have hs60 : (out.size : Int) ≤ 60 := by omega
          obtain ⟨z0, z', d', hz0, happ, hz7, hz3, hJ⟩ : ∃ (z0 z' : Nat) (d' : Dk), (j = 0 ∧ z0 = 300 ∨ 1 ≤ j ∧ z0 = z) ∧ markAppend d z0 (genM 1 k ⟨st, out⟩) = ((z' : Int), 0, d') ∧ z' ≤ 300 + 7 * (j + 1) ∧ 300 ≤ z' ∧ JourS d' 1 (genL 1 a.length (b.take (j + 1))) z' (k + 1) := by
            have hka := HKA.out
            have ha8 := HH.out.2.2.1
            have hb8 := HH.out.2.2.2.2.1
            have hgl : genL 1 a.length (b.take (j + 1)) = genL 1 a.length (b.take j) ++ [genM 1 k ⟨st, out⟩] := by
              rw [HK.out.2.2.2, genL_snoc, List.length_take, Nat.min_eq_left (by omega), hka.2.1]
            rw [hgl]
            rcases HK.out.2.1.2 with ⟨h1, h3, h4⟩ | ⟨h1, h3, h4⟩
            · obtain rfl : j = 0 := by omega
              obtain ⟨z', d', x1, x2, x3, x4⟩ := (h3.anew (g' := 1) (by omega)).append (by omega) (by omega) (by omega) k (by omega) ⟨st, out⟩ HK.out.2.2.1 (by simp only; omega) (Nat.le_refl _)
              exact ⟨300, z', d', .inl ⟨rfl, rfl⟩, x1, by omega, x3, x4⟩
            · have hjj : k - a.length = j := by omega
              rw [hjj] at h3 h4
              obtain ⟨z', d', x1, x2, x3, x4⟩ := h3.append (by omega) (by omega) (by omega) k (by omega) ⟨st, out⟩ HK.out.2.2.1 (by simp only; omega) HK.out.2.1.1
              exact ⟨z, z', d', .inr ⟨by omega, rfl⟩, x1, by omega, x3, x4⟩
          have HD := Lib.hid (show d.n + 2000000 < 4611686018427387904 ∧ d.p.length + 2000000 < 4294967296 from by
            have hka := HKA.out
            have ha8 := HH.out.2.2.1
            have hb8 := HH.out.2.2.2.2.1
            rcases HK.out.2.1.2 with ⟨-, h3, h4⟩ | ⟨-, h3, -⟩
            · have := h3.ops; have := h3.pend; omega
            · have := h3.ops; have := h3.pend; omega)
          have HN := Lib.hid (show GenS a b d' z' (k + 1) from ⟨hz3, .inr ⟨by have := HKA.out; omega, by
            rw [show k + 1 - a.length = j + 1 by have := HKA.out; omega]; exact hJ, by have := HKA.out; omega⟩⟩)
          have HA := Lib.hid happ
          have HSA := Lib.hid ((HK.out.1.below ((Below.refl _ wr).alloc (Nat.le_refl _) (.cells #[.int .i64 1, .int .i64 (k : Int), .bool true, .int .i64 st, .string out] 25))).below (below_drew _ _))
          clear happ hz7 hz3 hJ
          rcases hz0 with ⟨hj0, rfl⟩ | ⟨hj0, rfl⟩
          · have hkn : (k : Int) = (a.length : Int) := by omega
            have hkb : ((k : Int) == (a.length : Int)) = true := by simp [hkn]
            clear hkn hj0
            go_wp2_with fail
            go_region
            go_wp2_with fail
            refine (append_st HSA.out HH.out.2.2.2.2.2 300 1 (k : Int) true st out HK.out.2.2.1 (by omega) HA.out HD.out.1 HD.out.2).mono ?_
            rintro e w2 ⟨rfl, h2⟩
            have H2 := Lib.hid h2
            clear h2
            go_wp2_with fail
            exact ⟨⟨d', z', k + 1, HN.out, by have := HKA.out; omega, rfl, by go_num, H2.out⟩, by have := HKA.out; simp [intOf]; omega⟩
          · have hkn : (a.length : Int) < (k : Int) := by omega
            go_wp2_with fail
            go_region
            go_wp2_with fail
            refine (append_st HSA.out HH.out.2.2.2.2.2 (z0 : Int) 1 (k : Int) true st out HK.out.2.2.1 (by omega) HA.out HD.out.1 HD.out.2).mono ?_
            rintro e w2 ⟨rfl, h2⟩
            have H2 := Lib.hid h2
            clear h2
            go_wp2_with fail
            exact ⟨⟨d', z', k + 1, HN.out, by have := HKA.out; omega, rfl, by go_num, H2.out⟩, by have := HKA.out; simp [intOf]; omega⟩
      · have hkk : k = a.length + b.length := by omega
        obtain ⟨L, hL⟩ : ∃ L, L = genL 1 a.length b := ⟨_, rfl⟩
        have hJ : JourS d 1 L z k := by
          rcases hG.2 with ⟨h1, -⟩ | ⟨h1, h3, -⟩
          · have := HH.out.2.2.2.1; omega
          · rw [show k - a.length = b.length by omega, List.take_length] at h3
            rw [hL]; exact h3
        have hLl : L.length = b.length := by rw [hL, genL_len]
        have hLn : L ≠ [] := fun e => by rw [e] at hLl; have := HH.out.2.2.2.1; simp at hLl; omega
        obtain ⟨hs1, hs0⟩ := hJ.scan hLn (by omega) (by omega)
        have HS := Lib.hid (And.intro hst (And.intro hs1 (And.intro (hs0 0 (by omega)) (And.intro hLl hL))))
        have hk1 : (k : Int) = (a.length : Int) + (b.length : Int) := by omega
        have hk2 : ¬ (k : Int) < (a.length : Int) + (b.length : Int) := by omega
        clear hst hG hk hka hka' hkb hkk hJ hLn hs1 hs0 hLl hL hk1
        go_wp2_with fail
        refine (scan_st HS.out.1 HH.out.2.2.2.2.2 1 HS.out.2.1 rfl).mono ?_
        rintro e w2 ⟨q1, c1, rfl, ho1, hm1, hc1, h2, -⟩
        have H2 := Lib.hid (And.intro h2 hm1)
        clear ho1 hm1 hc1 h2
        go_wp2_with fail
        refine (scan_st H2.out.1 HH.out.2.2.2.2.2 0 HS.out.2.2.1 (Z := 300) rfl).mono ?_
        rintro e w3 ⟨q2, c2, rfl, ho2, hm2, hc2, h3, hb3⟩
        have H3 := Lib.hid (And.intro h3.old (H2.out.2.below hb3))
        clear ho2 hm2 hc2 h3 hb3
        go_wp2_with fail
        go_loopw [15, 16] (fun v i wr => RelWa L w3 v i wr) (fun _ i _ => b.length - (intOf i).toNat)
        case atStart => exact ⟨0, by omega, rfl, OwnM.nil _ _, Below.refl _ _⟩
        case round =>
          obtain ⟨k2, hkL, rfl, hown, hb⟩ := hrel
          have hw3 : Below w.heap.size w wr := H3.out.1.trans (hb.mono H3.out.1.size)
          have hLl := HS.out.2.2.2.1
          by_cases hlt : k2 < b.length
          · obtain ⟨bb, o, rfl, c0, c1, hi, hm⟩ := (HH.out.2.1.below hw3) k2 hlt
            have htk : L.take (k2 + 1) = L.take k2 ++ [⟨1, (a.length : Int) + (k2 : Int), true, b[k2].st, b[k2].out⟩] := by
              rw [take_snoc L k2 (by omega)]
              congr 1
              have := genL_at 1 a.length b k2 hlt
              simp only [HS.out.2.2.2.2]
              rw [this]
              rfl
            obtain ⟨y, hy⟩ : ∃ y, y = b[k2] := ⟨_, rfl⟩
            rw [← hy] at c0 c1 htk
            obtain ⟨st, out⟩ := y
            simp only at c0 c1 htk
            have k0 : (k2 : Int) < (b.length : Int) := by omega
            have HK := Lib.hid (And.intro hown (And.intro hb (And.intro hw3 (And.intro htk (And.intro hlt hkL)))))
            obtain ⟨O1, hO1⟩ : ∃ O1, O1 = Obj.cells #[.int .i64 1, .int .i64 ((a.length : Int) + (k2 : Int)), .bool true, .int .i64 st, .string out] 25 := ⟨_, rfl⟩
            have ha2 : Below wr.heap.size wr (wr.alloc O1) := (Below.refl _ _).alloc (Nat.le_refl _) _
            have hown2 : OwnM (wr.alloc O1) w3.heap.size u15 (L.take k2) := hown.below ha2
            have hb02 : Below w.heap.size w (wr.alloc O1) := hw3.trans (ha2.mono hw3.size)
            have hb32 : Below w3.heap.size w3 (wr.alloc O1) := hb.trans (ha2.mono hb.size)
            have hnews := World.news_of_block (w := wr.alloc O1) (B := wr.heap.size) (cs := #[.int .i64 1, .int .i64 ((a.length : Int) + (k2 : Int)), .bool true, .int .i64 st, .string out]) (t := 25) (fr := (0, 0)) (by
              rw [← hO1]
              exact heap_alloc_new wr O1)
            rw [hO1] at ha2 hown2 hb02 hb32 hnews
            have hlen : (L.take k2).length = k2 := by rw [List.length_take]; omega
            unfold OwnM at hown2
            rw [hlen] at hown2
            have hlen5 : (mcells (L.take k2)).length = k2 * 5 := by rw [mcells_len, hlen]
            have HLEN := Lib.hid hlen
            have H8 := Lib.hid HH.out.2.2.2.2.1
            clear hkL hown hb hw3 htk hlt hi hm hy hLl hlen hlen5
            go_wp2_with (at_builtin; refine wpList_append_lies _ rfl _ _ 39 rfl w3.heap.size 25 i0 (.agg #[.int .i64 0, .int .i64 0, .bool false, .int .i64 0, .string ⟨#[]⟩]) 5 48 Tryd.underlying39 HZ.out.1 HZ.out.2.1 HZ.out.2.2.1 HZ.out.2.2.2 rfl (by decide) u15 k2 (mcells (L.take k2)) rfl hown2 ⟨wr.heap.size, 0, none⟩ 1 1 (Mk.cells ⟨1, (a.length : Int) + (k2 : Int), true, st, out⟩) rfl rfl hnews (mark_one _) (by decide) ?h63 ?hby ?hbase (wr.heap.size + 1) (by simp) ?_)
            case h63 => have := HK.out.2.2.2.2.1; have := H8.out; unfold maxLen; omega
            case hby => have := HK.out.2.2.2.2.1; have := H8.out; omega
            case hbase => have h := hb32.size; simp at h; exact h
            intro g2 cap w5 ho5 hg5 hat5 hlt5
            have hb5 := hb32.grown hg5 hb32.size (fun k hk => (hown2.lt k hk).1)
            have H5 := Lib.hid (show OwnM w5 w3.heap.size (.slice (some ⟨g2, 0, none⟩) (k2 + 1) cap) (L.take (k2 + 1)) ∧ Below w3.heap.size w3 w5 from by
              refine ⟨?_, hb5⟩
              unfold OwnM
              rw [HK.out.2.2.2.1, mcells_snoc, List.length_append, HLEN.out]
              exact ho5)
            clear ho5 hg5 hat5 hlt5 hb5 ha2 hown2 hb02 hb32 hnews hO1
            go_wp2_with fail
            exact ⟨⟨k2 + 1, by have := HK.out.2.2.2.2; have := HS.out.2.2.2.1; omega, by go_num, H5.out.1, H5.out.2⟩, by have := HK.out.2.2.2.2.1; simp [intOf]; omega⟩
          · have hkL2 : k2 = L.length := by omega
            rw [hkL2, List.take_length] at hown
            obtain ⟨q5, c5, hv5, -, -, hm5⟩ := hown.at
            have hb5 : ((k2 : Int) < (b.length : Int)) = False := by simp; omega
            have HW := Lib.hid (And.intro hw3 (And.intro (H3.out.2.below hb) (And.intro hm5 (show L.length ≤ 100000 from by have := HH.out.2.2.2.2.1; omega))))
            have k0 : ¬ (k2 : Int) < (b.length : Int) := by omega
            subst hv5
            clear hkL hown hb hw3 hlt hm5 hkL2 hb5 hLl
            go_wp2_with fail
            refine (same_yes q1 q5 _ c5 L wr HW.out.2.1 HW.out.2.2.1 HW.out.2.2.2).mono ?_
            rintro e w6 ⟨rfl, hb6⟩
            have HB6 := Lib.hid (HW.out.1.trans (hb6.mono HW.out.1.size))
            clear hb6
            go_wp2_with fail
            refine (known_any _ (HH.out.2.2.2.2.2.below HB6.out)).mono ?_
            rintro e w7 ⟨rfl, hb7⟩
            have HB7 := Lib.hid (HB6.out.trans (hb7.mono HB6.out.size))
            clear hb7
            go_wp2_with fail
            go_ret
            exact ⟨rfl, HB7.out⟩

/-- THE LAW's WALK. -/
theorem mgens_law (pa pb : Option Addr) (ca cb : Nat) (a b : List AnsV) (w : World) (h1 : AnsAt w pa a) (h2 : AnsAt w pb b) (hg : NetP.Glob w) :
    Calls Tryd.prog 7 #[.slice pa a.length ca, .slice pb b.length cb] w fun e w' => e = .returned (.bool true) ∧ Below w.heap.size w w' := by
  by_cases ha : a.length ≤ 8
  · by_cases hb1 : 1 ≤ b.length
    · by_cases hb8 : b.length ≤ 8
      · exact mgens_in pa pb ca cb a b w h1 h2 ha hb1 hb8 hg
      · have x1 : (a.length : Int) ≤ 8 := by omega
        have x2 : (1 : Int) ≤ (b.length : Int) := by omega
        have x3 : (8 : Int) < (b.length : Int) := by omega
        clear h1 h2 hg ha hb1 hb8
        go_enter Tryd.func7, Tryd.ntmps7
        go_wp2_with fail
        go_ret
        exact ⟨rfl, Below.refl _ _⟩
    · have x1 : (a.length : Int) ≤ 8 := by omega
      have x2 : (b.length : Int) < 1 := by omega
      clear h1 h2 hg ha hb1
      go_enter Tryd.func7, Tryd.ntmps7
      go_wp2_with fail
      go_ret
      exact ⟨rfl, Below.refl _ _⟩
  · have x1 : (8 : Int) < (a.length : Int) := by omega
    clear h1 h2 hg ha
    go_enter Tryd.func7, Tryd.ntmps7
    go_wp2_with fail
    go_ret
    exact ⟨rfl, Below.refl _ _⟩
end Go.Proofs.YtilplpjdbkipoaaDoor
