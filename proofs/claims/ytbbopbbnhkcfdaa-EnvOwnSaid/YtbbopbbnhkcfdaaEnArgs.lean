/-
  Proved: what a row gives of an argument that is an Env, a script of acts, an act. Conditions: the row's own.
-/
import Derived.Test.YtbbopbbnhkcfdaaGlyphFrame
import Derived.Test.YtbbopbbnhkcfdaaEnAct
import Derived.SizedLaws
import Derived.Lib.SmallJoins
import Derived.Deep.Strs
namespace Go.Proofs.Ytbbopbbnhkcfdaa
open Go Go.ChangeShapes Go.WideShapes Go.ChangeAt Go.WideMaps Go.WideElems Go.RowKit Go.Deep EnMath

theorem cBind : Try.prog.cellsOf 44 = 2 := by kernel_rfl
theorem cFunc : Try.prog.cellsOf 47 = 2 := by kernel_rfl
theorem cStr : Try.prog.cellsOf 9 = 1 := by kernel_rfl
theorem cInt : Try.prog.cellsOf 3 = 1 := by kernel_rfl
theorem cActs : Try.prog.cellsOf 31 = 4 := by kernel_rfl
theorem cEnv : Try.prog.cellsOf 26 = 3 := by kernel_rfl
theorem cSlB : Try.prog.cellsOf 22 = 1 := by kernel_rfl
theorem cSlS : Try.prog.cellsOf 23 = 1 := by kernel_rfl
theorem cSlF : Try.prog.cellsOf 24 = 1 := by kernel_rfl
theorem byStr : Try.prog.bytesOf 9 = 16 := by kernel_rfl
theorem bind_struct : ∃ f0 f1 : Field, Try.prog.underlying 44 = some (.struct #[f0, f1]) ∧ (f0.type = 9 ∧ f0.offset = 0) ∧ (f1.type = 9 ∧ f1.offset = 1) := ⟨_, _, Try.underlying44, ⟨rfl, rfl⟩, ⟨rfl, rfl⟩⟩
theorem fun_struct : ∃ f0 f1 : Field, Try.prog.underlying 47 = some (.struct #[f0, f1]) ∧ (f0.type = 9 ∧ f0.offset = 0) ∧ (f1.type = 3 ∧ f1.offset = 1) := ⟨_, _, Try.underlying47, ⟨rfl, rfl⟩, ⟨rfl, rfl⟩⟩
theorem acts_struct : ∃ f0 f1 f2 f3 : Field, Try.prog.underlying 31 = some (.struct #[f0, f1, f2, f3]) ∧ (f0.type = 3 ∧ f0.offset = 0) ∧ (f1.type = 9 ∧ f1.offset = 1) ∧ (f2.type = 9 ∧ f2.offset = 2) ∧ (f3.type = 3 ∧ f3.offset = 3) := ⟨_, _, _, _, Try.underlying31, ⟨rfl, rfl⟩, ⟨rfl, rfl⟩, ⟨rfl, rfl⟩, ⟨rfl, rfl⟩⟩
theorem env_struct : ∃ f0 f1 f2 : Field, Try.prog.underlying 26 = some (.struct #[f0, f1, f2]) ∧ (f0.type = 22 ∧ f0.offset = 0) ∧ (f1.type = 23 ∧ f1.offset = 1) ∧ (f2.type = 24 ∧ f2.offset = 2) := ⟨_, _, _, Try.underlying26, ⟨rfl, rfl⟩, ⟨rfl, rfl⟩, ⟨rfl, rfl⟩⟩

section
variable {H : Type} {enc : TypeId × Value → H}
theorem en_weights {e : TypeId} {d : DataW H} {k : Nat} (hk : k ∈ d.weights Try.prog e) : ∀ {l : List (DataW H)}, d ∈ l → k ∈ DataW.weightsAll Try.prog e l
  | x :: r, h => by
    rw [DataW.weightsAll, List.mem_append]
    rcases List.mem_cons.1 h with rfl | h
    · exact .inl hk
    · exact .inr (en_weights hk h)
theorem bind_cells {W : World} {fuel : Nat} {cs : List Value} {x : DataW H × List MemPlace} (h : DataW.trod enc Try.prog W 0 (fun _ => true) true fuel 44 cs = some x) : ∃ y : ByteArray × ByteArray, cs = bC y := by
  obtain ⟨f0, f1, hu, ⟨t0, o0⟩, ⟨t1, o1⟩⟩ := bind_struct
  obtain ⟨y0, y1, n, rfl, hlen, h0, h1⟩ := trod_struct2 hu h
  rw [t0, o0, cStr] at h0
  rw [t1, o1, cStr] at h1
  rw [cBind] at hlen
  match cs, hlen with
  | [c0, c1], _ =>
    simp only [List.drop_zero, List.drop_succ_cons, List.take_succ_cons, List.take_zero] at h0 h1
    obtain ⟨s0, e0, -, -⟩ := DataW.trod_string Try.underlying9 h0
    obtain ⟨s1, e1, -, -⟩ := DataW.trod_string Try.underlying9 h1
    obtain rfl : c0 = .string s0 := by simpa using e0
    obtain rfl : c1 = .string s1 := by simpa using e1
    exact ⟨(s0, s1), rfl⟩
theorem fun_cells {W : World} {fuel : Nat} {cs : List Value} {x : DataW H × List MemPlace} (h : DataW.trod enc Try.prog W 0 (fun _ => true) true fuel 47 cs = some x) : ∃ y : ByteArray × Int, cs = fC y := by
  obtain ⟨f0, f1, hu, ⟨t0, o0⟩, ⟨t1, o1⟩⟩ := fun_struct
  obtain ⟨y0, y1, n, rfl, hlen, h0, h1⟩ := trod_struct2 hu h
  rw [t0, o0, cStr] at h0
  rw [t1, o1, cInt] at h1
  rw [cFunc] at hlen
  match cs, hlen with
  | [c0, c1], _ =>
    simp only [List.drop_zero, List.drop_succ_cons, List.take_succ_cons, List.take_zero] at h0 h1
    obtain ⟨s0, e0, -, -⟩ := DataW.trod_string Try.underlying9 h0
    obtain ⟨z, hz, -, -⟩ := DataW.trod_int Try.underlying3 h1
    obtain rfl : c0 = .string s0 := by simpa using e0
    obtain rfl : c1 = .int .i64 z := by simpa using hz
    exact ⟨(s0, z), rfl⟩
theorem str_cells {W : World} {fuel : Nat} {cs : List Value} {x : DataW H × List MemPlace} (h : DataW.trod enc Try.prog W 0 (fun _ => true) true fuel 9 cs = some x) : ∃ y : ByteArray, cs = sC y := by
  obtain ⟨s0, e0, -, -⟩ := DataW.trod_string Try.underlying9 h
  exact ⟨s0, e0⟩
theorem act_cells {W : World} {fuel : Nat} {cs : List Value} {x : DataW H × List MemPlace} (h : DataW.trod enc Try.prog W 0 (fun _ => true) true fuel 31 cs = some x) : ∃ y : Ac, cs = aC y := by
  obtain ⟨f0, f1, f2, f3, hu, ⟨t0, o0⟩, ⟨t1, o1⟩, ⟨t2, o2⟩, ⟨t3, o3⟩⟩ := acts_struct
  obtain ⟨y0, y1, y2, y3, n, -, hl, h0, h1, h2, h3⟩ := Joins.trod_struct4 hu h
  rw [cActs] at hl
  rw [t0, o0, cInt] at h0
  rw [t1, o1, cStr] at h1
  rw [t2, o2, cStr] at h2
  rw [t3, o3, cInt] at h3
  match cs, hl with
  | [c0, c1, c2, c3], _ =>
    simp only [List.drop_zero, List.drop_succ_cons, List.take_succ_cons, List.take_zero] at h0 h1 h2 h3
    obtain ⟨z0, e0, -, -⟩ := DataW.trod_int Try.underlying3 h0
    obtain ⟨s1, e1, -, -⟩ := DataW.trod_string Try.underlying9 h1
    obtain ⟨s2, e2, -, -⟩ := DataW.trod_string Try.underlying9 h2
    obtain ⟨z3, e3, -, -⟩ := DataW.trod_int Try.underlying3 h3
    obtain rfl : c0 = .int .i64 z0 := by simpa using e0
    obtain rfl : c1 = .string s1 := by simpa using e1
    obtain rfl : c2 = .string s2 := by simpa using e2
    obtain rfl : c3 = .int .i64 z3 := by simpa using e3
    exact ⟨⟨z0, s1, s2, z3⟩, rfl⟩
/-- A row that has been read. -/
theorem rd_open {α : Type} {sz : Nat} {en : α → List Value} {ts te : TypeId} (hts : Try.prog.underlying ts = some (.slice te)) (hc : Try.prog.cellsOf te = sz) (E : Enc sz en) (y0 : α) {W : World}
    (hr : ∀ (fuel : Nat) (cs : List Value) (x : DataW H × List MemPlace), DataW.trod enc Try.prog W 0 (fun _ => true) true fuel te cs = some x → ∃ y : α, cs = en y)
    {fuel : Nat} {cv : Value} {x : DataW H × List MemPlace} (hf : DataW.trod enc Try.prog W 0 (fun _ => true) true fuel ts [cv] = some x) :
    ∃ (p : Option Addr) (c : Nat) (l : List α), cv = .slice p l.length c ∧ Rd sz en W (.slice p l.length c) l ∧ ∀ N, (∀ k ∈ x.1.weights Try.prog ts, k ≤ N) → l.length * Try.prog.bytesOf te ≤ N := by
  rcases open_slice hts hf with ⟨hcs, hx0⟩ | ⟨a, len, cap, m, n, D, Pl, hcs, -, hl, hm, hmm, hxx, hx⟩
  · obtain rfl : cv = .slice none 0 0 := by simpa using hcs
    exact ⟨none, 0, [], rfl, Rd.nil _ _ W, fun N _ => by simp⟩
  · obtain rfl : cv = .slice (some a) len cap := by simpa using hcs
    have hmc : m = cap := by rw [hmm]; rfl
    rw [hc] at hx
    have hV : ∀ i, ∃ y : α, i < cap → W.cells? 0 (a.add (i * sz)) sz = some (en y) := fun i => by
      by_cases hi : i < cap
      · obtain ⟨cs', h1, h2⟩ := hx i (by omega)
        obtain ⟨y, rfl⟩ := hr _ _ _ h2
        exact ⟨y, fun _ => h1⟩
      · exact ⟨y0, fun h => absurd h hi⟩
    obtain ⟨Y, hY⟩ := Classical.axiomOfChoice hV
    have hlen : ((List.range len).map Y).length = len := by simp
    refine ⟨some a, cap, (List.range len).map Y, by rw [hlen], ⟨some a, cap, rfl, by rw [hlen]; exact hl, hm, ?_⟩, fun N hN => ?_⟩
    · rcases Nat.eq_zero_or_pos cap with h0 | h0
      · exact .inl h0
      · obtain ⟨b, o, spot⟩ := a
        have hspot : spot = none := by
          obtain ⟨-, -, g5⟩ := World.cells?_some (hY 0 h0)
          have hp := E.pos
          have hl0 := E.len (Y 0)
          obtain ⟨u, hu⟩ : ∃ u, (en (Y 0))[0]? = some u := ⟨_, List.getElem?_eq_getElem (by omega)⟩
          have g0 := g5 0 hp
          rw [Nat.zero_mul, hu] at g0
          have := World.cell?_spot g0
          simpa [Addr.add] using this
        subst hspot
        refine .inr ⟨b, o, rfl, fun k y hk i u hu => ?_⟩
        obtain ⟨hk1, hk2⟩ := List.getElem?_eq_some_iff.1 hk
        rw [hlen] at hk1
        rw [List.getElem_map, List.getElem_range] at hk2
        obtain ⟨-, -, g5⟩ := World.cells?_some (hY k (by omega))
        rw [hk2] at g5
        have hi : i < sz := by have := (List.getElem?_eq_some_iff.1 hu).1; rwa [E.len] at this
        have := g5 i hi
        rw [en_add, en_add, hu] at this
        exact this
    · rw [hlen]
      obtain ⟨hx1, -⟩ : x.1 = _ ∧ x.2 = _ := by rw [hxx]; exact ⟨rfl, rfl⟩
      rw [hx1] at hN
      have := hN _ (by rw [DataW.weights, hts]; exact List.mem_cons_self)
      simp only [List.length_map, List.length_range] at this
      exact Nat.le_trans (Nat.mul_le_mul_right _ (Nat.le_add_right _ _)) this

/-- An argument that is an Env. -/
theorem env_open {W : World} {base : Nat} {v : Value} {d : DataW H} {ps : List MemPlace} (hv : Value.okWide Try.prog W .any base 26 v) (h : DataW.Trod enc Try.prog W 0 (fun _ => true) true 26 v d ps) (hN : ∀ k ∈ d.weights Try.prog 26, k ≤ 140737488355328) :
    ∃ E : Ev, EnvAt W v E ∧ E.args.length * 16 ≤ 140737488355328 := by
  obtain ⟨f0, f1, f2, hu, ⟨t0, o0⟩, ⟨t1, o1⟩, ⟨t2, o2⟩⟩ := env_struct
  obtain ⟨cs, rfl, hsz⟩ := okWide_struct hu hv
  obtain ⟨fuel, hf⟩ := h
  obtain ⟨y0, y1, y2, n, hxy, hl, h0, h1, h2⟩ := trod_struct3 hu hf
  obtain ⟨rfl, -⟩ : d = _ ∧ _ := by simpa using hxy
  rw [cEnv] at hl
  rw [t0, o0, cSlB] at h0
  rw [t1, o1, cSlS] at h1
  rw [t2, o2, cSlF] at h2
  obtain ⟨l⟩ := cs
  simp only [Value.cells] at hl h0 h1 h2
  match l, hl with
  | [c0, c1, c2], _ =>
    simp only [List.drop_zero, List.drop_succ_cons, List.take_succ_cons, List.take_zero] at h0 h1 h2
    obtain ⟨p0, m0, l0, rfl, r0, -⟩ := rd_open Try.underlying22 cBind bE (⟨#[]⟩, ⟨#[]⟩) (fun _ _ _ h => bind_cells h) h0
    obtain ⟨p1, m1, l1, rfl, r1, b1⟩ := rd_open Try.underlying23 cStr sE ⟨#[]⟩ (fun _ _ _ h => str_cells h) h1
    obtain ⟨p2, m2, l2, rfl, r2, -⟩ := rd_open Try.underlying24 cFunc fE (⟨#[]⟩, 0) (fun _ _ _ h => fun_cells h) h2
    refine ⟨⟨l0, l1, l2⟩, ⟨_, _, _, rfl, r0, r1, r2⟩, ?_⟩
    rw [byStr] at b1
    refine b1 _ fun k hk => hN k ?_
    rw [DataW.weights, hu]
    show k ∈ DataW.weightsEach Try.prog [f0.type, f1.type, f2.type] [y0.1, y1.1, y2.1]
    rw [DataW.weightsEach, DataW.weightsEach, t1]
    exact List.mem_append_right _ (List.mem_append_left _ hk)
/-- An argument that is a script. -/
theorem script_open {W : World} {base : Nat} {v : Value} {d : DataW H} {ps : List MemPlace} (hv : Value.okWide Try.prog W .any base 27 v) (h : DataW.Trod enc Try.prog W 0 (fun _ => true) true 27 v d ps) : ∃ l : List Ac, Rd 4 aC W v l := by
  obtain ⟨a, n, c, rfl⟩ := okWide_slice Try.underlying27 hv
  obtain ⟨fuel, hf⟩ := h
  obtain ⟨p, m, l, e, r, -⟩ := rd_open Try.underlying27 cActs aE ⟨0, ⟨#[]⟩, ⟨#[]⟩, 0⟩ (fun _ _ _ h => act_cells h) hf
  exact ⟨l, by rw [e]; exact r⟩
/-- An argument that is an act. -/
theorem act_open {W : World} {base : Nat} {v : Value} {d : DataW H} {ps : List MemPlace} (hv : Value.okWide Try.prog W .any base 31 v) (h : DataW.Trod enc Try.prog W 0 (fun _ => true) true 31 v d ps) : ∃ a : Ac, v = .agg #[.int .i64 a.kind, .string a.name, .string a.value, .int .i64 a.n] := by
  obtain ⟨f0, f1, f2, f3, hu, -⟩ := acts_struct
  obtain ⟨cs, rfl, -⟩ := okWide_struct hu hv
  obtain ⟨fuel, hf⟩ := h
  obtain ⟨a, ha⟩ := act_cells hf
  refine ⟨a, ?_⟩
  have hm : cs.toList = aC a := ha
  congr 1
  apply Array.ext'
  rw [hm]
  rfl
end
end Go.Proofs.Ytbbopbbnhkcfdaa
