/-
  Proved: the contract of a parser's assign. Conditions: the word lies in memory.
-/
import Derived.Test.YtakceggnadagmaaGreatDoorParseCase
import Derived.Test.YtakceggnadagmaaGreatDoorPj07
namespace Go.Proofs.YtakceggnadagmaaGreatDoor
open Go Go.RowKit GlyphMath LexMath TreeMath ParseMath

/-! ### Cut at '=' -/
theorem rest_index : ∀ (l : List UInt8), (∃ i, i < l.length ∧ Lib.indexByte l 61 = (i : Int) ∧ aheadT l = some (l.take i) ∧ restT l = l.drop (i + 1)) ∨ (Lib.indexByte l 61 = -1 ∧ aheadT l = none)
  | [] => .inr ⟨rfl, rfl⟩
  | b :: l => by
    rw [Lib.indexByte, aheadT, restT]
    by_cases h : b = 61
    · subst h
      exact .inl ⟨0, by simp, by simp, by simp, by simp⟩
    · have h1 : (b == 61) = false := by simpa using h
      rw [h1, if_neg h, if_neg h]
      rcases rest_index l with ⟨i, h2, h3, h4, h5⟩ | ⟨h3, h4⟩
      · refine .inl ⟨i + 1, by simpa using h2, ?_, ?_, by simpa using h5⟩
        · rw [h3]
          have : (((i : Int)) == -1) = false := beq_eq_false_iff_ne.2 (by omega)
          rw [this]
          simp
        · rw [h4]; rfl
      · exact .inr ⟨by rw [h3]; rfl, by rw [h4]; rfl⟩
set_option maxHeartbeats 2000000 in
set_option maxRecDepth 100000 in
theorem slcut2_any (s : ByteArray) (w : World) (hs : s.size ≤ 1048576) :
    Calls Tryz.prog 200 #[.string s, .string ⟨#[61]⟩] w fun e w' => ∃ a b : ByteArray, ∃ f : Bool, e = .returned (.tuple #[.string a, .string b, .bool f]) ∧ ((f = true ∧ aheadT s.data.toList = some a.data.toList ∧ restT s.data.toList = b.data.toList) ∨ (f = false ∧ aheadT s.data.toList = none)) ∧ ∃ n, w' = w.drewN n := by
  have HI := Lib.hid (fun W => Tryz.stringslite_Index_one s 61 W)
  rcases rest_index s.data.toList with ⟨i, h1, h2, h3, h4⟩ | ⟨h2, h3⟩
  · rw [h3, h4]
    rw [h2] at HI
    rw [← Lib.size_eq] at h1
    have c1 : (0 : Int) ≤ (i : Int) := by omega
    have c2 : (i : Int) ≤ (s.size : Int) := by omega
    obtain ⟨m, hm⟩ : ∃ m : Nat, m = i + 1 := ⟨_, rfl⟩
    have hwr : IntKind.i64.wrap ((i : Int) + 1) = (m : Int) := by
      have e : (m : Int) = (i : Int) + 1 := by omega
      rw [e]; exact IntWalk.i64_in _ ⟨by omega, by omega⟩
    have c3 : (0 : Int) ≤ (m : Int) := by omega
    have c4 : (m : Int) ≤ (s.size : Int) := by omega
    have HS := Lib.hid (show s.data.toList.take i = (s.extract 0 i).data.toList by simp [ByteArray.data_extract])
    have HD := Lib.hid (show s.data.toList.drop (i + 1) = (s.extract m s.size).data.toList by rw [hm]; simp only [ByteArray.data_extract, Array.toList_extract]; rw [List.extract_eq_take_drop, List.take_of_length_le (by rw [List.length_drop, ← Lib.size_eq]; omega)])
    clear h1 h2 h3 h4 hm hs
    go_enter Tryz.func200, Tryz.ntmps200
    go_wp2_with (go_at_call 201; refine (HI.out _).mono ?_; rintro e w' ⟨rfl, rfl⟩)
    go_quiet (fail)
    go_wp2_with fail
    go_ret3
    exact ⟨_, _, _, rfl, .inl ⟨rfl, by rw [HS.out], HD.out⟩, _, rfl⟩
  · rw [h3]
    rw [h2] at HI
    clear h2 h3 hs
    go_enter Tryz.func200, Tryz.ntmps200
    go_wp2_with (go_at_call 201; refine (HI.out _).mono ?_; rintro e w' ⟨rfl, rfl⟩)
    go_ret3
    exact ⟨_, _, _, rfl, .inr ⟨rfl, trivial⟩, 0, rfl⟩
theorem cut2_any (s : ByteArray) (w : World) (hs : s.size ≤ 1048576) :
    Calls Tryz.prog 199 #[.string s, .string ⟨#[61]⟩] w fun e w' => ∃ a b : ByteArray, ∃ f : Bool, e = .returned (.tuple #[.string a, .string b, .bool f]) ∧ ((f = true ∧ aheadT s.data.toList = some a.data.toList ∧ restT s.data.toList = b.data.toList) ∨ (f = false ∧ aheadT s.data.toList = none)) ∧ Below w.heap.size w w' := by
  have HI := Lib.hid (slcut2_any s w hs)
  clear hs
  go_enter Tryz.func199, Tryz.ntmps199
  go_wp2_with (go_at_call 200; refine HI.out.mono ?_; rintro e w1 ⟨a, b, f, rfl, hf, n, rfl⟩; have HF := Lib.hid hf; clear hf)
  go_ret3
  exact ⟨_, _, _, rfl, HF.out, below_drew _ _ _⟩

/-! ### Rows of parts -/
def PartP (W : World) (cs : List Value) (q : Pt) : Prop := ∃ u, cs = pcells q u ∧ PsAt W u q.word
/-- A row of parts whose own words were there at the outset. -/
def PaR (w0 w : World) (B : Nat) (v : Value) (ps : List Pt) : Prop := ∃ css, RowG w0 w 113 5 PartP B v css ps (fun _ => False)
theorem part_cel {W : World} {q : Pt} {u : Value} (h : PsAt W u q.word) : Cel 5 (pcells q u) := by
  obtain ⟨p, c, rfl, -⟩ := h.is
  refine ⟨rfl, fun v hv => ?_⟩
  simp only [pcells, txt, List.mem_cons, List.not_mem_nil, or_false] at hv
  rcases hv with rfl | rfl | rfl | rfl | rfl <;> rfl
theorem PaR.nil (w0 w : World) (B : Nat) : PaR w0 w B (.slice none 0 0) [] := ⟨[], RowG.nil _ _ _ _ _ _⟩
theorem PaR.kept {D : Nat → Prop} {w0 w w' : World} {B : Nat} {v : Value} {ps : List Pt} (h : PaR w0 w B v ps) (hk : Kept D w w') (hD : ∀ k, B ≤ k → ¬ D k) : PaR w0 w' B v ps := by
  obtain ⟨css, h⟩ := h
  exact ⟨css, h.kept hk fun k hk' => hD k (h.lt k hk').1⟩
/-- A row of parts can be read as a word. -/
theorem PaR.ps {w0 w : World} {B : Nat} {v : Value} {ps : List Pt} (h : PaR w0 w B v ps) (hm : ps.length ≤ maxLen) : NewAt w0 w B fun W => PsAt W v ps := by
  obtain ⟨css, h⟩ := h
  refine ⟨fun k => False ∨ v.ownBlock = some k, h.lt, h.slat.imp fun W hW => ?_⟩
  obtain ⟨⟨p, c, rfl, h1⟩, h2⟩ := hW
  have key : ∀ (k : Nat) (q : Pt) (u : Value), ps[k]? = some q → (css.map fun cs => cs.getD 3 (.bool false))[k]? = some u → SpotAt W p k 5 (pcells q u) ∧ PsAt W u q.word := fun k q u hq hu => by
    rw [List.getElem?_map] at hu
    obtain ⟨cs, hcs, rfl⟩ := Option.map_eq_some_iff.1 hu
    obtain ⟨u', rfl, hu'⟩ := h2 k cs q hcs hq
    exact ⟨h1 k _ hcs, hu'⟩
  exact .mk p c ps _ (by rw [List.length_map, h.len]) hm (fun k q u hq hu => (key k q u hq hu).1) (fun k q u hq hu => (key k q u hq hu).2)
/-- Parts more, of a row that was there at the outset. -/
theorem PaR.adds {w0 w : World} {B : Nat} {v v' : Value} {ps qs : List Pt} {css dss : List (List Value)} (h : RowG w0 w 113 5 PartP B v css ps (fun _ => False)) (hl : dss.length = qs.length) (hq : ∀ (k : Nat) (ds : List Value) (q : Pt), dss[k]? = some ds → qs[k]? = some q → PartP w0 ds q)
    {w2 : World} (hown : w2.ownsRow B 113 5 v' (ps.length + qs.length) (css.flatten ++ dss.flatten)) : PaR w0 w2 B v' (ps ++ qs) := by
  have hd : ∀ ds ∈ dss, Cel 5 ds := fun ds hds => by
    obtain ⟨k, hk, rfl⟩ := List.mem_iff_getElem.1 hds
    obtain ⟨u, e, hu⟩ := hq k _ _ (List.getElem?_eq_getElem hk) (List.getElem?_eq_getElem (by rw [← hl]; exact hk))
    rw [e]
    exact part_cel hu
  refine ⟨css ++ dss, ?_, by simp [h.len, hl], ?_, ?_, fun k hk => hk.elim⟩
  · rw [List.length_append, List.flatten_append]
    exact hown
  · intro cs hcs
    exact (List.mem_append.1 hcs).elim (h.each cs) (hd cs)
  · intro k cs x h1 h2
    rcases Nat.lt_or_ge k ps.length with hk | hk
    · rw [List.getElem?_append_left (by rw [h.len]; exact hk)] at h1
      rw [List.getElem?_append_left hk] at h2
      exact (h.sub k cs x h1 h2).same fun i hi => hi.elim
    · rw [List.getElem?_append_right (by rw [h.len]; exact hk), h.len] at h1
      rw [List.getElem?_append_right hk] at h2
      obtain ⟨u, e, hu⟩ := hq _ _ _ h1 h2
      exact Stays.of0 fun W hb => ⟨u, e, hu.stays hb⟩
/-- What is behind a word's first part. -/
theorem PsAt.more {w : World} {q : Pt} {r : List Pt} {b o c : Nat} (h : PsAt w (.slice (some ⟨b, o, none⟩) (r.length + 1) c) (q :: r)) : ∃ dss : List (List Value), dss.length = r.length ∧ (∀ (k : Nat) (ds : List Value) (x : Pt), dss[k]? = some ds → r[k]? = some x → PartP w ds x) ∧ (∀ ds ∈ dss, Cel 5 ds) ∧ ∀ (j : Nat) (u : Value), dss.flatten[j]? = some u → w.cell? ⟨b, o + 5 + j, none⟩ = some u := by
  generalize hv : Value.slice (some ⟨b, o, none⟩) (r.length + 1) c = v at h
  generalize hps : q :: r = ps at h
  cases h with
  | mk p c' ps' us h1 h2 h3 h4 =>
    subst hps
    simp only [Value.slice.injEq] at hv
    obtain ⟨rfl, -, rfl⟩ := hv
    obtain ⟨u0, us, rfl⟩ : ∃ u0 us', us = u0 :: us' := by
      cases us with
      | nil => simp at h1
      | cons a t => exact ⟨a, t, rfl⟩
    have hul : us.length = r.length := by simpa using h1
    have hl : (List.zipWith pcells r us).length = r.length := by rw [List.length_zipWith, hul]; simp
    have hget : ∀ (k : Nat) (ds : List Value), (List.zipWith pcells r us)[k]? = some ds → ∃ x u, r[k]? = some x ∧ us[k]? = some u ∧ ds = pcells x u := fun k ds hk => by
      rw [List.getElem?_zipWith] at hk
      cases hr : r[k]? with
      | none => rw [hr] at hk; simp at hk
      | some x =>
        cases hu : us[k]? with
        | none => rw [hr, hu] at hk; simp at hk
        | some u => rw [hr, hu] at hk; exact ⟨x, u, rfl, rfl, by simpa using hk.symm⟩
    have hcel : ∀ ds ∈ List.zipWith pcells r us, Cel 5 ds := fun ds hds => by
      obtain ⟨k, hk, rfl⟩ := List.mem_iff_getElem.1 hds
      obtain ⟨x, u, hx, hu, e⟩ := hget k _ (List.getElem?_eq_getElem hk)
      rw [e]
      exact part_cel (h4 (k + 1) x u (by simpa using hx) (by simpa using hu))
    refine ⟨List.zipWith pcells r us, hl, fun k ds x hk hx => ?_, hcel, fun j u hj => ?_⟩
    · obtain ⟨x', u, hx', hu, e⟩ := hget k ds hk
      rw [hx] at hx'
      cases hx'
      exact ⟨u, e, h4 (k + 1) x u (by simpa using hx) (by simpa using hu)⟩
    · have hjl := (List.getElem?_eq_some_iff.1 hj).1
      rw [flat_len hcel, hl] at hjl
      have hk : j / 5 < r.length := by omega
      obtain ⟨x, ux, hx, hux, e⟩ := hget (j / 5) _ (List.getElem?_eq_getElem (by rw [hl]; exact hk))
      have hf := flat_get hcel (j / 5) _ (List.getElem?_eq_getElem (by rw [hl]; exact hk)) (j % 5) (by omega)
      rw [show j / 5 * 5 + j % 5 = j by omega, hj] at hf
      obtain ⟨b', o', he, hc⟩ := h3 (j / 5 + 1) x ux (by simpa using hx) (by simpa using hux)
      simp only [Option.some.injEq, Addr.mk.injEq, and_true] at he
      obtain ⟨rfl, rfl⟩ := he
      have := hc (j % 5) u (by rw [← e]; exact hf.symm)
      rwa [show o + (j / 5 + 1) * 5 + j % 5 = o + 5 + j by omega] at this
end Go.Proofs.YtakceggnadagmaaGreatDoor
