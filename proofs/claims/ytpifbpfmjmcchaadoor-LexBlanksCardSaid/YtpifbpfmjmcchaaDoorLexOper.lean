/-
  Proved: the contract of operation, of whatever parts within. Conditions: the reader lies in memory.
-/
import Derived.Test.YtpifbpfmjmcchaaDoorLexBrace
namespace Go.Proofs.YtpifbpfmjmcchaaDoor
open Go Go.RowKit GlyphMath LexMath

def hashEnd (m : Res (List Nat)) : Res Pt :=
  match m with
  | .error e => .error e
  | .ok (l', r) => .ok (⟨2, enc l', [35], [], false⟩, r)
theorem operation_is (f : List Nat → Res (List Pt)) (xs : List Nat) (h : firstR (next xs : Int) = true) : operationM f [35] xs = hashEnd (parameterM xs) := by
  unfold operationM hashEnd
  rw [if_pos ⟨rfl, h⟩]
  cases parameterM xs <;> rfl
theorem five_there {w : World} {k : Nat} {a b c d e : Value} {t : TypeId} (h : w.heap[k]? = some (.cells #[a, b, c, d, e] t (0, 0))) : w.there k 0 5 := by
  intro j hj
  refine ⟨?_, by rw [Nat.zero_add]; exact five_free h j⟩
  obtain ⟨x0, x1, x2, x3, x4⟩ := five_cells h
  match j, hj with
  | 0, _ => rw [x0]; rfl
  | 1, _ => rw [x1]; rfl
  | 2, _ => rw [x2]; rfl
  | 3, _ => rw [x3]; rfl
  | 4, _ => rw [x4]; rfl
/-- Five cells are stored at once. -/
theorem five_stored {w w2 : World} {k : Nat} {x0 x1 x2 x3 x4 : Value} {t : TypeId} (h : w.heap[k]? = some (.cells #[x0, x1, x2, x3, x4] t (0, 0))) {a b c d e : Value} (hw : w2 = w.setCells k 0 (#[a, b, c, d, e] : Array Value).toList) :
    w2.heap[k]? = some (.cells #[a, b, c, d, e] t (0, 0)) ∧ Kept (fun j => j = k) w w2 ∧ ∀ j, j ≠ k → w2.heap[j]? = w.heap[j]? := by
  subst hw
  have hk : Kept (fun j => j = k) w (w.setCells k 0 (#[a, b, c, d, e] : Array Value).toList) := five_kept (D := fun j => j = k) (Kept.refl _ w) (.inl rfl) a b c d e
  refine ⟨five_put h a b c d e, hk, fun j hj => ?_⟩
  show (((((w.setCell ⟨k, 0, none⟩ a).setCell ⟨k, 1, none⟩ b).setCell ⟨k, 2, none⟩ c).setCell ⟨k, 3, none⟩ d).setCell ⟨k, 4, none⟩ e).heap[j]? = _
  rw [Below.heap_setCell _ _ _ _ hj, Below.heap_setCell _ _ _ _ hj, Below.heap_setCell _ _ _ _ hj, Below.heap_setCell _ _ _ _ hj, Below.heap_setCell _ _ _ _ hj]

set_option maxHeartbeats 400000 in
set_option maxRecDepth 100000 in
theorem operation_hash {depth : Nat} {f : List Nat → Res (List Pt)} {w : World} {X G sz : Nat} {xs : List Nat} (h : Rd w X G sz xs) (hfi : firstR (next xs : Int) = true) :
    Calls Tryd.prog 83 #[.pointer (some ⟨X, 0, none⟩), .agg #[.int .i64 2, .string ⟨#[35]⟩, .string ⟨#[]⟩, .slice none 0 0, .bool false], .int .i64 (depth : Int)] w fun e w' => PartEnd w w' e X G sz (operationM f [35] xs) := by
  have hX := h.lt
  have hr0 : Rd ((w.alloc (VB ⟨#[35]⟩ ⟨#[]⟩)).alloc ZB) X G sz xs := h.below (((Below.refl _ w).alloc (Nat.le_refl _) _).alloc (by simp) _)
  have HN := Lib.hid (next_any hr0)
  have HPA := Lib.hid (parameter_any hr0)
  have HFI := Lib.hid (fun W => by have := firstT (next xs) W; rw [hfi] at this; exact this)
  obtain ⟨m, hm⟩ : ∃ m, parameterM xs = m := ⟨_, rfl⟩
  have HM := Lib.hid (show operationM f [35] xs = hashEnd m by rw [← hm]; exact operation_is f xs hfi)
  rw [hm] at HPA
  have HX := Lib.hid hX
  have two := fun (w' : World) (k : Kept (fun k => k = X) ((w.alloc (VB ⟨#[35]⟩ ⟨#[]⟩)).alloc ZB) w') => two_vars hX.1 k (new_first w _)
  have TWO := Lib.hid two
  clear h hX hr0 hfi hm two
  cases m with
  | error cc =>
    go_enter Tryd.func83, Tryd.ntmps83
    go_wp2_with (first
      | (go_at_call 26; refine HN.out.mono ?_; rintro e w1 ⟨rfl, rfl⟩; simp only [VB, ZB])
      | (go_at_call 72; refine (HFI.out _).mono ?_; rintro e w1 ⟨rfl, rfl⟩))
    refine HPA.out.mono ?_
    rintro e w1 ⟨hcc, rfl, hk1⟩
    rw [show partV ⟨0, [], [], [], false⟩ zeroV = .agg #[.int .i64 0, .string ⟨#[]⟩, .string ⟨#[]⟩, .slice none 0 0, .bool false] from rfl]
    obtain ⟨v1, v2, kw⟩ := TWO.out w1 hk1
    obtain ⟨d0, d1, d2, d3, d4⟩ := five_cells v1
    have fz := five_free v1
    have f0 := fz 0
    have f1 := fz 1
    have f2 := fz 2
    have f3 := fz 3
    have f4 := fz 4
    obtain ⟨x0, x1, x2, x3, x4⟩ := five_cells v2
    have gz := five_free v2
    have g0 := gz 0
    have g1 := gz 1
    have g2 := gz 2
    have g3 := gz 3
    have g4 := gz 4
    have HV := Lib.hid (And.intro v1 (And.intro v2 (And.intro kw hcc)))
    clear v1 v2 kw fz gz hk1 hcc d0 d1 d2 d3 d4 f0 f1 f2 f3 f4
    go_wp2_with (refine wpList_store_mid (by rfl) 25 (.tmp 4) (.tmp 20) (by rfl) w.heap.size 0 #[.int .i64 0, .string ⟨#[]⟩, .string ⟨#[]⟩, .slice none 0 0, .bool false] (by rfl) (by rfl) (five_there HV.out.1) part_info (by simp [Value.oneCell']) ?_; obtain ⟨w2, hw2⟩ : ∃ w2, w2 = w1.setCells w.heap.size 0 (#[.int .i64 0, .string ⟨#[]⟩, .string ⟨#[]⟩, .slice none 0 0, .bool false] : Array Value).toList := ⟨_, rfl⟩; rw [← hw2]; obtain ⟨y1, y2, y3⟩ := five_stored HV.out.1 hw2; obtain ⟨d0, d1, d2, d3, d4⟩ := five_cells y1; have f2 := five_free y1 2; have y4 := (y3 (w.heap.size + 1) (by omega)).trans HV.out.2.1; clear x0 x1 x2 x3 x4 g0 g1 g2 g3 g4; obtain ⟨x0, x1, x2, x3, x4⟩ := five_cells y4; have g0 := five_free y4 0; have g1 := five_free y4 1; have g2 := five_free y4 2; have g3 := five_free y4 3; have g4 := five_free y4 4; have HY := Lib.hid (And.intro y1 (And.intro y2 y4)); clear y1 y2 y3 y4 hw2)
    (try simp only [Exit.inBlock, Exit.then])
    obtain ⟨y1, y2, y4⟩ := HY.out
    obtain ⟨v1, v2, kw, hcc⟩ := HV.out
    have hk2 : Kept (fun k => w.heap.size ≤ k) w1 w2 := y2.mono fun k _ e => by omega
    refine bodyPost_ret (ret_part rfl (five_put ((Below.heap_setCell _ _ _ _ (by simp)).trans y4) _ _ _ _ _) rfl rfl) rfl ?_
    rw [HM.out, hcc]
    refine ⟨.inl rfl, ⟨⟨0, [], [35], [], false⟩, rfl⟩, ?_⟩
    exact ((kw.trans hk2 (fun _ h => .inr h)).trans ((Kept.refl (fun k => w.heap.size ≤ k) w2).setCell (.inl (Nat.le_refl _)) _) (fun _ h => .inr h)).trans (five_kept (D := fun k => w.heap.size ≤ k) (Kept.refl _ _) (.inl (by omega)) _ _ _ _ _) (fun _ h => .inr h)
  | ok b =>
    obtain ⟨l, r⟩ := b
    go_enter Tryd.func83, Tryd.ntmps83
    go_wp2_with (first
      | (go_at_call 26; refine HN.out.mono ?_; rintro e w1 ⟨rfl, rfl⟩; simp only [VB, ZB])
      | (go_at_call 72; refine (HFI.out _).mono ?_; rintro e w1 ⟨rfl, rfl⟩))
    refine HPA.out.mono ?_
    rintro e w1 ⟨rfl, hs1, hgl⟩
    obtain ⟨T, hT⟩ : ∃ T : ByteArray, txt (enc l) = .string T := ⟨_, rfl⟩
    rw [show partV ⟨2, enc l, [], [], false⟩ zeroV = .agg #[.int .i64 2, .string T, .string ⟨#[]⟩, .slice none 0 0, .bool false] by rw [partV, hT]; rfl]
    obtain ⟨v1, v2, kw⟩ := TWO.out w1 hs1.2
    obtain ⟨d0, d1, d2, d3, d4⟩ := five_cells v1
    have fz := five_free v1
    have f0 := fz 0
    have f1 := fz 1
    have f2 := fz 2
    have f3 := fz 3
    have f4 := fz 4
    obtain ⟨x0, x1, x2, x3, x4⟩ := five_cells v2
    have gz := five_free v2
    have g0 := gz 0
    have g1 := gz 1
    have g2 := gz 2
    have g3 := gz 3
    have g4 := gz 4
    have HV := Lib.hid (And.intro v1 (And.intro v2 (And.intro kw (And.intro hs1 hT))))
    clear v1 v2 kw fz gz hs1 hgl hT d0 d1 d2 d3 d4 f0 f1 f2 f3 f4
    go_wp2_with (refine wpList_store_mid (by rfl) 25 (.tmp 4) (.tmp 20) (by rfl) w.heap.size 0 #[.int .i64 2, .string T, .string ⟨#[]⟩, .slice none 0 0, .bool false] (by rfl) (by rfl) (five_there HV.out.1) part_info (by simp [Value.oneCell']) ?_; obtain ⟨w2, hw2⟩ : ∃ w2, w2 = w1.setCells w.heap.size 0 (#[.int .i64 2, .string T, .string ⟨#[]⟩, .slice none 0 0, .bool false] : Array Value).toList := ⟨_, rfl⟩; rw [← hw2]; obtain ⟨y1, y2, y3⟩ := five_stored HV.out.1 hw2; obtain ⟨d0, d1, d2, d3, d4⟩ := five_cells y1; have f2 := five_free y1 2; have y4 := (y3 (w.heap.size + 1) (by omega)).trans HV.out.2.1; clear x0 x1 x2 x3 x4 g0 g1 g2 g3 g4; obtain ⟨x0, x1, x2, x3, x4⟩ := five_cells y4; have g0 := five_free y4 0; have g1 := five_free y4 1; have g2 := five_free y4 2; have g3 := five_free y4 3; have g4 := five_free y4 4; have HY := Lib.hid (And.intro y1 (And.intro y2 y4)); clear y1 y2 y3 y4 hw2)
    (try simp only [Exit.inBlock, Exit.then])
    obtain ⟨y1, y2, y4⟩ := HY.out
    obtain ⟨v1, v2, kw, hs1, hT⟩ := HV.out
    have hx := HX.out
    have hk2 : Kept (fun k => w.heap.size ≤ k) w1 w2 := y2.mono fun k _ e => by omega
    have hk3 : Kept (fun k => w.heap.size ≤ k) w2 ((((((w2.setCell ⟨w.heap.size, 2, none⟩ (.string ⟨#[35]⟩)).setCell ⟨w.heap.size + 1, 0, none⟩ (.int .i64 2)).setCell ⟨w.heap.size + 1, 1, none⟩ (.string T)).setCell ⟨w.heap.size + 1, 2, none⟩ (.string ⟨#[35]⟩)).setCell ⟨w.heap.size + 1, 3, none⟩ (.slice none 0 0)).setCell ⟨w.heap.size + 1, 4, none⟩ (.bool false)) :=
      ((Kept.refl (fun k => w.heap.size ≤ k) w2).setCell (.inl (Nat.le_refl _)) _).on (five_kept (D := fun k => w.heap.size ≤ k) (Kept.refl _ _) (.inl (by omega)) _ _ _ _ _)
    refine bodyPost_ret (ret_part rfl (five_put ((Below.heap_setCell _ _ _ _ (by simp)).trans y4) _ _ _ _ _) rfl rfl) rfl ?_
    rw [HM.out]
    refine ⟨zeroV, by rw [partV, hT]; rfl, WordN.nil _ _, (hs1.1.kept hk2 (by omega) (by omega)).kept hk3 (by omega) (by omega), ?_⟩
    exact (kw.trans hk2 (fun _ h => .inr h)).trans hk3 (fun _ h => .inr h)

theorem operation_any {depth : Nat} {f : List Nat → Res (List Pt)} (hP : PartsDo (depth + 1) f) (hd : depth ≤ 100) {w : World} {X G sz : Nat} {xs l : List Nat} (h : Rd w X G sz xs) (hl : ∀ c ∈ l, GoodL c) (T : ByteArray) (hT : txt (enc l) = .string T) :
    Calls Tryd.prog 83 #[.pointer (some ⟨X, 0, none⟩), .agg #[.int .i64 2, .string T, .string ⟨#[]⟩, .slice none 0 0, .bool false], .int .i64 (depth : Int)] w fun e w' => PartEnd w w' e X G sz (operationM f l xs) := by
  by_cases h1 : l = [35]
  · cases h2 : firstR (next xs : Int) with
    | false => exact operation_other hP hd h hl (.inr h2) T hT
    | true =>
      subst h1
      obtain rfl : T = ⟨#[35]⟩ := by
        have e : (⟨(enc [35]).toArray⟩ : ByteArray) = T := by simpa [txt] using hT
        rw [← e]; rfl
      exact operation_hash h h2
  · exact operation_other hP hd h hl (.inl h1) T hT
end Go.Proofs.YtpifbpfmjmcchaaDoor
