/-
  Proved: contracts of the statements' own Plain, IsAssign, open, opens. Conditions: texts of at most 2^20 bytes; the library's tables lie as they should.
-/
import Derived.Test.YtloaalapkmbgeaaDoorTreeRParts
import Derived.Test.YtloaalapkmbgeaaDoorTreeAll
namespace Go.Proofs.YtloaalapkmbgeaaDoor
open Go Go.RowKit GlyphMath LexMath TreeMath

set_option maxRecDepth 100000 in
theorem rplain_any (ps : List Pt) (v : Value) (w : World) (hv : PsAt w v ps) :
    Calls Tryd.prog 59 #[wordV v] w fun e w' => e = .returned (.tuple #[.string (T ((plainT ps).getD [])), .bool (plainT ps).isSome]) ∧ Below w.heap.size w w' := by
  have HB := Lib.hid (fun o => below_one w o)
  unfold wordV
  match ps, hv with
  | [], hv =>
    obtain ⟨p, c, rfl, -, -⟩ := hv.is
    clear hv
    go_enter Tryd.func59, Tryd.ntmps59
    go_wp2_with fail
    go_ret2
    exact ⟨rfl, HB.out _⟩
  | q :: q2 :: r, hv =>
    obtain ⟨p, c, rfl, -, -⟩ := hv.is
    have hL : (((q :: q2 :: r).length : Int) != 1) = true := by
      have : ((q :: q2 :: r).length : Int) ≠ 1 := by rw [List.length_cons, List.length_cons]; omega
      simpa using this
    have HT := Lib.hid (show T ((plainT (q :: q2 :: r)).getD []) = ⟨#[]⟩ ∧ (plainT (q :: q2 :: r)).isSome = false from ⟨rfl, rfl⟩)
    rw [HT.out.1, HT.out.2]
    obtain ⟨L, hLL⟩ : ∃ L, (q :: q2 :: r).length = L := ⟨_, rfl⟩
    rw [hLL] at hL ⊢
    clear hv hLL
    go_enter Tryd.func59, Tryd.ntmps59
    go_wp2_with fail
    go_ret2
    exact ⟨rfl, HB.out _⟩
  | [q], hv =>
    obtain ⟨b, o, c, u, rfl, -, c0, c1, c2, c3, c4⟩ := first_cells hv
    show Calls _ _ #[.agg #[.slice (some ⟨b, o, none⟩) 1 c]] _ _
    obtain ⟨s, hs⟩ : ∃ s, T q.text = s := ⟨_, rfl⟩
    have HT := Lib.hid (show T ((plainT [q]).getD []) = (if bareT q = true then s else ⟨#[]⟩) ∧ (plainT [q]).isSome = bareT q from by
      rw [← hs]
      show T ((if bareT q = true then some q.text else none).getD []) = _ ∧ (if bareT q = true then some q.text else none).isSome = _
      cases bareT q <;> exact ⟨rfl, rfl⟩)
    rw [HT.out.1, HT.out.2]
    have HBT := Lib.hid (show bareT q = (q.kind == 1 && !q.q) from rfl)
    rw [HBT.out]
    rw [hs] at c1
    obtain ⟨kd, hkd⟩ : ∃ s, q.kind = s := ⟨_, rfl⟩
    obtain ⟨qq, hqq⟩ : ∃ s, q.q = s := ⟨_, rfl⟩
    rw [hkd] at c0 ⊢
    rw [hqq] at c4 ⊢
    have d0 := fun x => cell_below c0 (HB.out x)
    have d1 := fun x => cell_below c1 (HB.out x)
    have d4 := fun x => cell_below c4 (HB.out x)
    clear hv hs hkd hqq HBT HT c2 c3
    by_cases h : kd = 1
    · subst h
      cases qq
      all_goals
        go_enter Tryd.func59, Tryd.ntmps59
        go_wp2_with fail
        go_ret2
        exact ⟨rfl, HB.out _⟩
    · have h1 : (kd != 1) = true := by simpa using h
      have h2 := int_ne h
      rw [h2]
      clear h h2
      go_enter Tryd.func59, Tryd.ntmps59
      go_wp2_with fail
      go_ret2
      exact ⟨rfl, HB.out _⟩

theorem gives_open (ps : List Pt) : givesT ps = (match aheadT (openT ps) with | some n => nameT n | none => false) := rfl
def givesB (tx pre : List UInt8) : Bool := match aheadT tx with
  | some n => nameT (pre ++ n)
  | none => false
theorem givesB_nil (pre : List UInt8) : givesB [] pre = false := rfl
theorem givesB_hit (r pre : List UInt8) : givesB (61 :: r) pre = nameT pre := by
  unfold givesB
  rw [aheadT, if_pos rfl]
  simp
theorem givesB_miss {c : UInt8} (h : ¬ c = 61) (r pre : List UInt8) : givesB (c :: r) pre = givesB r (pre ++ [c]) := by
  unfold givesB
  rw [aheadT, if_neg h]
  cases aheadT r with
  | none => rfl
  | some n => simp
theorem take_T (s : ByteArray) (k : Nat) : s.extract 0 k = T (s.data.toList.take k) := by
  apply ByteArray.ext
  apply Array.toList_inj.1
  simp [ByteArray.data_extract]

set_option maxHeartbeats 1000000 in
set_option maxRecDepth 100000 in
theorem risassign_any (ps : List Pt) (v : Value) (w : World) (hv : PsAt w v ps) (hsm : Small ps) (hT : Tabs w) :
    Calls Tryd.prog 58 #[wordV v] w fun e w' => ∃ n : Int, e = .returned (.tuple #[.int .i64 n, .bool (givesT ps)]) ∧ Below w.heap.size w w' := by
  have HB := Lib.hid (fun o => below_one w o)
  have HT := Lib.hid hT
  clear hT
  unfold wordV
  match ps, hv, hsm with
  | [], hv, _ =>
    obtain ⟨p, c, rfl, -, -⟩ := hv.is
    clear hv
    go_enter Tryd.func58, Tryd.ntmps58
    go_wp2_with fail
    go_ret2
    exact ⟨_, rfl, HB.out _⟩
  | q :: r, hv, hsm =>
    obtain ⟨b, o, c, u, rfl, -, c0, c1, c2, c3, c4⟩ := first_cells hv
    obtain ⟨R, hR⟩ : ∃ R, givesT (q :: r) = R := ⟨_, rfl⟩
    rw [hR]
    have HG := Lib.hid (show R = if (q.kind == 1 && !q.q) then givesB q.text [] else false from by
      rw [← hR, gives_open]
      show (match aheadT (if (q.kind == 1 && !q.q) = true then q.text else []) with | some n => nameT n | none => false) = _
      cases (q.kind == 1 && !q.q)
      · rfl
      · unfold givesB
        simp only [↓reduceIte, List.nil_append])
    have hsz : (T q.text).size ≤ 1048576 := (hsm.get (List.mem_cons_self)).1
    have HTX := Lib.hid (show (T q.text).data.toList = q.text from rfl)
    obtain ⟨tx, htx⟩ : ∃ tx, q.text = tx := ⟨_, rfl⟩
    rw [htx] at HG HTX c1 hsz
    obtain ⟨s, hs⟩ : ∃ s, T tx = s := ⟨_, rfl⟩
    rw [hs] at c1 HTX hsz
    obtain ⟨kd, hkd⟩ : ∃ s, q.kind = s := ⟨_, rfl⟩
    obtain ⟨qq, hqq⟩ : ∃ s, q.q = s := ⟨_, rfl⟩
    rw [hkd] at c0 HG
    rw [hqq] at c4 HG
    have hL : ((r.length + 1 : Nat) : Int) ≠ 0 := by omega
    obtain ⟨L, hLL⟩ : ∃ L, r.length + 1 = L := ⟨_, rfl⟩
    rw [hLL] at hL ⊢
    have hL1 := int_ne hL
    have hL2 : (0 : Int) < (L : Int) := by omega
    have d0 := fun x => cell_below c0 (HB.out x)
    have d1 := fun x => cell_below c1 (HB.out x)
    have d4 := fun x => cell_below c4 (HB.out x)
    have HSZ := Lib.hid hsz
    clear hv hs hkd hqq c2 c3 hR htx hL hLL hsm
    by_cases h : kd = 1
    · subst h
      cases qq with
      | true =>
        have HF := Lib.hid (show R = false from HG.out)
        rw [HF.out]
        clear HG
        go_enter Tryd.func58, Tryd.ntmps58
        go_wp2_with fail
        go_ret2
        exact ⟨_, rfl, HB.out _⟩
      | false =>
        have HG := Lib.hid (show givesB tx [] = R from HG.out.symm)
        go_enter Tryd.func58, Tryd.ntmps58
        go_wp2_with fail
        go_loopw [5] (fun i wr => ∃ k : Nat, i = .int .i64 (k : Int) ∧ k ≤ s.size ∧ givesB (tx.drop k) (tx.take k) = R ∧ Below w.heap.size w wr) (fun i _ => s.size - (intOf i).toNat)
        case atStart => exact ⟨0, rfl, Nat.zero_le _, by rw [List.drop_zero, List.take_zero]; exact HG.out, HB.out _⟩
        case round =>
          obtain ⟨k, rfl, hk, hr, hb⟩ := hrel
          have HBR := Lib.hid hb
          clear hb
          by_cases hlt : k < s.size
          · have hj : (k : Int) < (s.size : Int) := by omega
            have hg : tx.drop k = s.get! k :: tx.drop (k + 1) := by rw [← HTX.out]; exact get_drop s k hlt
            have hlen : tx.length = s.size := by rw [← HTX.out, ← Lib.size_eq]
            have htk : tx.take (k + 1) = tx.take k ++ [s.get! k] := by
              have h1 : k < tx.length := by omega
              rw [List.take_succ_eq_append_getElem h1]
              congr 2
              have h2 := List.drop_eq_getElem_cons h1
              rw [hg] at h2
              simp only [List.cons.injEq] at h2
              exact h2.1.symm
            rw [hg, get_is s k hlt] at hr
            rw [get_is s k hlt] at htk
            have HKK := Lib.hid hlt
            by_cases h61 : s[k]'hlt = 61
            · rw [h61, givesB_hit] at hr
              have hb : (((s[k]'hlt).toNat : Int) == 61) = true := by rw [h61]; rfl
              have HN := Lib.hid (show Calls Tryd.prog 29 #[.string (s.extract 0 k)] wr fun e w' => e = .returned (.bool R) ∧ Below wr.heap.size wr w' from by
                have := rname_any (s.extract 0 k) wr (by have := HSZ.out; simp [ByteArray.size_extract]; omega) (HT.out.below HBR.out)
                rw [take_T, HTX.out] at this ⊢
                rwa [show nameL (letters (T (tx.take k))) = R from hr] at this)
              clear hr hg hk h61 htk hlen
              go_wp2_with (go_at_call 29; refine HN.out.mono ?_; rintro e w2 ⟨rfl, hb⟩; have HB2 := Lib.hid (HBR.out.trans (hb.mono HBR.out.size)); clear hb)
              go_ret2
              exact ⟨_, rfl, HB2.out⟩
            · rw [givesB_miss h61, ← htk] at hr
              have hb : (((s[k]'hlt).toNat : Int) == 61) = false := int_ne fun e => h61 (UInt8.toNat_inj.1 (by show _ = 61; omega))
              have HR := Lib.hid hr
              clear hr hg hk h61 htk hlen
              go_wp2_with fail
              go_roundw
              case rel => exact ⟨k + 1, by go_num, HKK.out, HR.out, HBR.out⟩
              case measure => have := HKK.out; simp [intOf]; omega
          · have hj : ¬ (k : Int) < (s.size : Int) := by omega
            have HF := Lib.hid (show R = false from by
              rw [← hr, ← HTX.out, drop_all s k hlt, givesB_nil])
            clear hr hlt hk
            go_wp2_with fail
            go_ret2
            exact ⟨⟨0, by rw [HF.out]; rfl⟩, HBR.out⟩
    · have h1 : (kd != 1) = true := by simpa using h
      have HF := Lib.hid (show R = false from by rw [HG.out, int_ne h]; rfl)
      rw [HF.out]
      clear h HG
      go_enter Tryd.func58, Tryd.ntmps58
      go_wp2_with fail
      go_ret2
      exact ⟨_, rfl, HB.out _⟩
end Go.Proofs.YtloaalapkmbgeaaDoor
