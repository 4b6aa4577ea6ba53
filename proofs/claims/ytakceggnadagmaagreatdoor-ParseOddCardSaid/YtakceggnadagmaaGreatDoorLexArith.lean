/-
  Proved: the contract of arith. Conditions: the reader lies in memory.
-/
import Derived.Test.YtakceggnadagmaaGreatDoorPj27
namespace Go.Proofs.YtakceggnadagmaaGreatDoor
open Go Go.RowKit GlyphMath LexMath

theorem zb_facts {W : World} {R : Nat} (h : W.heap[R]? = some ZB) :
    (W.cell? ⟨R, 0, none⟩ = some (.int .i64 0) ∧ W.cell? ⟨R, 1, none⟩ = some (.string ⟨#[]⟩) ∧ W.cell? ⟨R, 2, none⟩ = some (.string ⟨#[]⟩) ∧ W.cell? ⟨R, 3, none⟩ = some (.slice none 0 0) ∧ W.cell? ⟨R, 4, none⟩ = some (.bool false)) ∧
      (W.frozen? ⟨R, 0, none⟩ = false ∧ W.frozen? ⟨R, 1, none⟩ = false ∧ W.frozen? ⟨R, 2, none⟩ = false ∧ W.frozen? ⟨R, 3, none⟩ = false ∧ W.frozen? ⟨R, 4, none⟩ = false) :=
  ⟨five_cells h, five_free h 0, five_free h 1, five_free h 2, five_free h 3, five_free h 4⟩

/-- What arith is doing. -/
structure ArAt (w wr : World) (X G sz : Nat) (xs : List Nat) (n : Nat) (acc ys : List Nat) : Prop where
  rd : Rd wr X G sz ys
  bld : Bld wr (w.heap.size + 1) (w.heap.size + 1) (enc acc)
  kept : Kept (fun k => k = X) w wr
  zb : wr.heap[w.heap.size]? = some ZB
  size : w.heap.size + 1 < wr.heap.size
  said : arithM xs 0 [] = arithM ys n acc
  few : acc.length + ys.length ≤ xs.length
  low : n + ys.length ≤ 4000
theorem ArAt.step {w wr w' : World} {X G sz n : Nat} {xs acc ys zs : List Nat} (h : ArAt w wr X G sz xs n acc ys) (hX : X < w.heap.size) (k : RStep wr w' X G sz zs) :
    Bld w' (w.heap.size + 1) (w.heap.size + 1) (enc acc) ∧ Kept (fun k => k = X) w w' ∧ w'.heap[w.heap.size]? = some ZB ∧ w.heap.size + 1 < w'.heap.size :=
  ⟨h.bld.kept k.2 (fun j hj e => by omega), h.kept.on k.2, k.2.heap h.zb (fun e => by omega), Nat.lt_of_lt_of_le h.size k.2.size⟩
theorem arith_nil (n : Nat) (acc : List Nat) : arithM [] n acc = .error 2 := rfl
theorem arith_end (r acc : List Nat) (h : next r = 41) : arithM (41 :: r) 0 acc = .ok (acc, r.tail) := by rw [arithM, if_pos ⟨rfl, rfl⟩, if_pos h]
theorem arith_bad (r acc : List Nat) (h : next r ≠ 41) : arithM (41 :: r) 0 acc = .error 2 := by rw [arithM, if_pos ⟨rfl, rfl⟩, if_neg h]
theorem arith_go (c : Nat) (r acc : List Nat) (n m : Nat) (h1 : ¬ (n = 0 ∧ c = 41)) (h2 : reckons c = true) (h3 : m = if c = 40 then n + 1 else if c = 41 then n - 1 else n) : arithM (c :: r) n acc = arithM r m (acc ++ [c]) := by
  rw [arithM, if_neg h1, if_pos h2, h3]
theorem arith_no (c : Nat) (r acc : List Nat) (n : Nat) (h1 : ¬ (n = 0 ∧ c = 41)) (h2 : reckons c = false) : arithM (c :: r) n acc = .error 2 := by
  rw [arithM, if_neg h1, if_neg (by rw [h2]; decide)]
theorem takes2 (c : Nat) (r : List Nat) : takes [41, 41] (c :: r) = if c = 41 ∧ next r = 41 then some r.tail else none := by
  cases r with
  | nil =>
    by_cases h : c = 41
    · subst h; rfl
    · rw [if_neg (fun e => h e.1)]; unfold takes; rw [if_neg (fun e => h e.symm)]
  | cons d s =>
    by_cases h : c = 41
    · subst h
      by_cases k : d = 41
      · subst k; rfl
      · rw [if_neg (fun e => k e.2)]; unfold takes; rw [if_pos rfl]; unfold takes; rw [if_neg (fun e => k e.symm)]
    · rw [if_neg (fun e => h e.1)]; unfold takes; rw [if_neg (fun e => h e.symm)]

set_option maxHeartbeats 4000000 in
set_option maxRecDepth 100000 in
theorem arith_any {w : World} {X G sz : Nat} {xs : List Nat} (h : Rd w X G sz xs) :
    Calls Tryz.prog 148 #[.pointer (some ⟨X, 0, none⟩)] w fun e w' => PartEnd w w' e X G sz (match arithM xs 0 [] with | .error c => .error c | .ok (l, r) => .ok (⟨3, enc l, [], [], false⟩, r)) := by
  have HX := Lib.hid h.lt
  have HF := Lib.hid h.few
  have HR0 := Lib.hid h
  obtain ⟨M, hM⟩ : ∃ M : Res Pt, (match arithM xs 0 [] with | .error c => .error c | .ok (l, r) => .ok (⟨3, enc l, [], [], false⟩, r)) = M := ⟨_, rfl⟩
  rw [hM]
  have HM := Lib.hid hM
  clear h hM
  go_enter Tryz.func148, Tryz.ntmps148
  go_wp2_with fail
  go_loopw [5] (fun i wr => ∃ (n : Nat) (acc ys : List Nat), i = .int .i64 (n : Int) ∧ ArAt w wr X G sz xs n acc ys) (fun _ wr => lenAt wr X)
  case atStart =>
    have hb1 : Below w.heap.size w (w.alloc ZB) := (Below.refl _ w).alloc (Nat.le_refl _) _
    have hb2 : Below w.heap.size w ((w.alloc ZB).alloc (.cells #[.pointer none, .slice none 0 0] 144)) := hb1.alloc (by simp) _
    refine ⟨0, [], xs, rfl, HR0.out.below hb2, ?_, Kept.of_below hb2, (Below.heap_alloc _ _ _ (by simp)).trans (heap_alloc_new w _), by simp, rfl, by simp, by have := HF.out; omega⟩
    have hn := Bld.new (w.alloc ZB)
    rwa [show (w.alloc ZB).heap.size = w.heap.size + 1 by simp] at hn
  case round =>
    obtain ⟨n, acc, ys, rfl, hA⟩ := hrel
    have HA := Lib.hid hA
    clear hA
    by_cases hn0 : n = 0
    · subst hn0
      cases ys with
      | nil =>
        have HTK := Lib.hid (takesM HA.out.rd ⟨#[41, 41]⟩ [41, 41] rfl (by decide) (m := none) rfl)
        have HRK := Lib.hid (fun W => (show _ from by have := reckons_any 0 (.inl rfl) W; rw [show reckons 0 = false from rfl] at this; exact this))
        go_wp2_with (first
          | (go_at_call 99; refine HTK.out.mono ?_; rintro e w1 ⟨rfl, hs1⟩; simp only [Option.getD_none] at hs1; have HS1 := Lib.hid hs1; clear hs1; obtain ⟨⟨d0, d1, d2, d3, d4⟩, f0, f1, f2, f3, f4⟩ := zb_facts (HA.out.step HX.out.1 HS1.out).2.2.1)
          | (go_at_call 72; refine (next_any HS1.out.1).mono ?_; rintro e w2 ⟨rfl, rfl⟩; rw [next_nil])
          | (go_at_call 175; refine (HRK.out _).mono ?_; rintro e w3 ⟨rfl, hb3⟩; have HS3 := Lib.hid (HS1.out.below hb3); clear hb3; clear d0 d1 d2 d3 d4 f0 f1 f2 f3 f4; obtain ⟨⟨d0, d1, d2, d3, d4⟩, f0, f1, f2, f3, f4⟩ := zb_facts (HA.out.step HX.out.1 HS3.out).2.2.1))
        (try simp only [Exit.inBlock, Exit.then])
        refine bodyPost_ret (ret_part rfl (five_put (HA.out.step HX.out.1 HS3.out).2.2.1 _ _ _ _ _) rfl rfl) rfl ?_
        rw [← HM.out, HA.out.said, arith_nil]
        exact ⟨.inl rfl, ⟨⟨0, [], [], [], false⟩, rfl⟩, (HA.out.step HX.out.1 HS3.out).2.1.trans (five_kept (D := fun k => w.heap.size ≤ k) (Kept.refl _ _) (.inl (Nat.le_refl _)) _ _ _ _ _) (fun _ h => .inr h)⟩
      | cons c r =>
        have hgc := HA.out.rd.good c (by simp)
        have HGC := Lib.hid hgc
        by_cases hc : c = 41
        · subst hc
          clear hgc
          by_cases hr : next r = 41
          · have HTK := Lib.hid (takesM HA.out.rd ⟨#[41, 41]⟩ [41, 41] rfl (by decide) (m := some r.tail) (by rw [takes2, if_pos ⟨rfl, hr⟩]))
            have HWHY := Lib.hid (arith_end r acc hr)
            obtain ⟨T, hT⟩ : ∃ T : ByteArray, txt (enc acc) = .string T := ⟨_, rfl⟩
            have HTX := Lib.hid hT
            have HSZ := Lib.hid (show w.heap.size < w.heap.size + 1 by omega)
            clear hr hT
            go_wp2_with (first
              | (go_at_call 99; refine HTK.out.mono ?_; rintro e w1 ⟨rfl, hs1⟩; simp only [Option.getD_some] at hs1; have HS1 := Lib.hid hs1; clear hs1; obtain ⟨⟨d0, d1, d2, d3, d4⟩, f0, f1, f2, f3, f4⟩ := zb_facts (HA.out.step HX.out.1 HS1.out).2.2.1)
              | (go_at_call 98; refine (string_any (w.heap.size + 1) (w.heap.size + 1) (enc acc) w1 (HA.out.step HX.out.1 HS1.out).1 (Nat.le_of_lt (HA.out.step HX.out.1 HS1.out).2.2.2)).mono ?_; rintro e w6 ⟨rfl, hb6⟩; rw [HTX.out]; have HB6 := Lib.hid hb6; clear hb6 d0 d1 d2 d3 d4 f0 f1 f2 f3 f4; obtain ⟨⟨d0, d1, d2, d3, d4⟩, f0, f1, f2, f3, f4⟩ := zb_facts ((HB6.out.block _ HSZ.out).trans (HA.out.step HX.out.1 HS1.out).2.2.1)))
            (try simp only [Exit.inBlock, Exit.then])
            obtain ⟨s1, s2, s3, s4⟩ := HA.out.step HX.out.1 HS1.out
            have hx := HX.out
            have hk6 : Kept (fun k => w.heap.size ≤ k) w1 w6 := ⟨HB6.out.os, HB6.out.tape, HB6.out.output, HB6.out.size, fun k _ hd => HB6.out.block k (by omega)⟩
            refine bodyPost_ret (ret_part rfl (five_put ((HB6.out.block _ HSZ.out).trans s3) _ _ _ _ _) rfl rfl) rfl ?_
            rw [← HM.out, HA.out.said, HWHY.out]
            refine ⟨zeroV, by rw [partV, HTX.out]; rfl, WordN.nil _ _, ?_, ?_⟩
            · exact (HS1.out.1.kept hk6 (by omega) (by omega)).five (by omega) (by omega) _ _ _ _ _
            · exact (s2.trans hk6 (fun _ h => .inr h)).trans (five_kept (D := fun k => w.heap.size ≤ k) (Kept.refl _ _) (.inl (Nat.le_refl _)) _ _ _ _ _) (fun _ h => .inr h)
          · have HTK := Lib.hid (takesM HA.out.rd ⟨#[41, 41]⟩ [41, 41] rfl (by decide) (m := none) (by rw [takes2, if_neg (fun e => hr e.2)]))
            have HWHY := Lib.hid (arith_bad r acc hr)
            clear hr
            go_wp2_with (first
              | (go_at_call 99; refine HTK.out.mono ?_; rintro e w1 ⟨rfl, hs1⟩; simp only [Option.getD_none] at hs1; have HS1 := Lib.hid hs1; clear hs1; obtain ⟨⟨d0, d1, d2, d3, d4⟩, f0, f1, f2, f3, f4⟩ := zb_facts (HA.out.step HX.out.1 HS1.out).2.2.1)
              | (go_at_call 72; refine (next_any HS1.out.1).mono ?_; rintro e w2 ⟨rfl, rfl⟩; rw [next_cons]))
            (try simp only [Exit.inBlock, Exit.then])
            refine bodyPost_ret (ret_part rfl (five_put (HA.out.step HX.out.1 HS1.out).2.2.1 _ _ _ _ _) rfl rfl) rfl ?_
            rw [← HM.out, HA.out.said, HWHY.out]
            exact ⟨.inl rfl, ⟨⟨0, [], [], [], false⟩, rfl⟩, (HA.out.step HX.out.1 HS1.out).2.1.trans (five_kept (D := fun k => w.heap.size ≤ k) (Kept.refl _ _) (.inl (Nat.le_refl _)) _ _ _ _ _) (fun _ h => .inr h)⟩
        · have HTK := Lib.hid (takesM HA.out.rd ⟨#[41, 41]⟩ [41, 41] rfl (by decide) (m := none) (by rw [takes2, if_neg (fun e => hc e.1)]))
          obtain ⟨b, hb⟩ : ∃ b, reckons c = b := ⟨_, rfl⟩
          have HRK := Lib.hid (fun W => by have := reckons_any c (.inr HGC.out) W; rw [hb] at this; exact this)
          by_cases h40 : c = 40
          · subst h40
            obtain rfl : b = true := by rw [← hb]; rfl
            have HWHY := Lib.hid (arith_go 40 r acc 0 (0 + 1) (by simp) hb rfl)
            clear hb hc hgc
            go_wp2_with (first
              | (go_at_call 99; refine HTK.out.mono ?_; rintro e w1 ⟨rfl, hs1⟩; simp only [Option.getD_none] at hs1; have HS1 := Lib.hid hs1; clear hs1; obtain ⟨⟨d0, d1, d2, d3, d4⟩, f0, f1, f2, f3, f4⟩ := zb_facts (HA.out.step HX.out.1 HS1.out).2.2.1)
              | (go_at_call 72; refine (next_any HS1.out.1).mono ?_; rintro e w2 ⟨rfl, rfl⟩; rw [next_cons])
              | (go_at_call 175; refine (HRK.out _).mono ?_; rintro e w3 ⟨rfl, hb3⟩; have HS3 := Lib.hid (HS1.out.below hb3); clear hb3; clear d0 d1 d2 d3 d4 f0 f1 f2 f3 f4; obtain ⟨⟨d0, d1, d2, d3, d4⟩, f0, f1, f2, f3, f4⟩ := zb_facts (HA.out.step HX.out.1 HS3.out).2.2.1)
              | (go_at_call 97; refine (take_any HS3.out.1).mono ?_; rintro e w4 ⟨rfl, hs4⟩; rw [List.tail_cons] at hs4; rw [next_cons]; have HS4 := Lib.hid (HS3.out.trans hs4); clear hs4; have HE := Lib.hid (writeRune_any (w.heap.size + 1) (w.heap.size + 1) (enc acc) 40 HGC.out w4 (HA.out.step HX.out.1 HS4.out).1 (by have h1 := (enc_length acc).2; have h2 := HA.out.few; have h3 := HF.out; omega) (Nat.le_of_lt (HA.out.step HX.out.1 HS4.out).2.2.2)))
              | (go_at_call 96; refine HE.out.mono ?_; rintro e w5 ⟨⟨n5, rfl⟩, hd5, hb5⟩; have HD5 := Lib.hid (And.intro hd5 hb5); clear hd5 hb5))
            go_roundw
            case rel =>
              obtain ⟨s1, s2, s3, s4⟩ := HA.out.step HX.out.1 HS4.out
              have hk5 : Kept (fun k => w.heap.size + 1 ≤ k) w4 w5 := ⟨HD5.out.2.os, HD5.out.2.tape, HD5.out.2.output, HD5.out.2.size, fun k _ hd => HD5.out.2.block k (by omega)⟩
              have hx := HX.out
              refine ⟨0 + 1, acc ++ [40], r, rfl, HS4.out.1.kept hk5 (by omega) (by omega), ?_, s2.trans hk5 (fun i hi => .inr (by omega)), hk5.heap s3 (by omega), Nat.lt_of_lt_of_le s4 hk5.size, HA.out.said.trans (HWHY.out), ?_, ?_⟩
              · rw [enc_append]; simp only [enc, List.append_nil]; exact HD5.out.1
              · have := HA.out.few; simp only [List.length_append, List.length_cons, List.length_nil] at this ⊢; omega
              · have := HA.out.low; simp only [List.length_cons] at this; omega
            case measure =>
              have hx := HX.out
              have hk5 : Kept (fun k => w.heap.size + 1 ≤ k) w4 w5 := ⟨HD5.out.2.os, HD5.out.2.tape, HD5.out.2.output, HD5.out.2.size, fun k _ hd => HD5.out.2.block k (by omega)⟩
              have e1 := (HS4.out.1.kept hk5 (by omega) (by omega)).lenAt
              have e2 := HA.out.rd.lenAt
              simp only [e1, e2, List.length_cons]
              omega
          · have e40 : ((c : Int) == 40) = false := by
              have : ¬ (c : Int) = 40 := by omega
              simpa using this
            have e41 : ((c : Int) == 41) = false := by
              have : ¬ (c : Int) = 41 := by omega
              simpa using this
            cases b with
            | true =>
              have HWHY := Lib.hid (arith_go c r acc 0 0 (fun e => hc e.2) hb (by rw [if_neg h40, if_neg hc]))
              clear hb hc hgc h40
              go_wp2_with (first
                | (go_at_call 99; refine HTK.out.mono ?_; rintro e w1 ⟨rfl, hs1⟩; simp only [Option.getD_none] at hs1; have HS1 := Lib.hid hs1; clear hs1; obtain ⟨⟨d0, d1, d2, d3, d4⟩, f0, f1, f2, f3, f4⟩ := zb_facts (HA.out.step HX.out.1 HS1.out).2.2.1)
                | (go_at_call 72; refine (next_any HS1.out.1).mono ?_; rintro e w2 ⟨rfl, rfl⟩; rw [next_cons])
                | (go_at_call 175; refine (HRK.out _).mono ?_; rintro e w3 ⟨rfl, hb3⟩; have HS3 := Lib.hid (HS1.out.below hb3); clear hb3; clear d0 d1 d2 d3 d4 f0 f1 f2 f3 f4; obtain ⟨⟨d0, d1, d2, d3, d4⟩, f0, f1, f2, f3, f4⟩ := zb_facts (HA.out.step HX.out.1 HS3.out).2.2.1)
                | (go_at_call 97; refine (take_any HS3.out.1).mono ?_; rintro e w4 ⟨rfl, hs4⟩; rw [List.tail_cons] at hs4; rw [next_cons]; have HS4 := Lib.hid (HS3.out.trans hs4); clear hs4; have HE := Lib.hid (writeRune_any (w.heap.size + 1) (w.heap.size + 1) (enc acc) c HGC.out w4 (HA.out.step HX.out.1 HS4.out).1 (by have h1 := (enc_length acc).2; have h2 := HA.out.few; have h3 := HF.out; omega) (Nat.le_of_lt (HA.out.step HX.out.1 HS4.out).2.2.2)))
                | (go_at_call 96; refine HE.out.mono ?_; rintro e w5 ⟨⟨n5, rfl⟩, hd5, hb5⟩; have HD5 := Lib.hid (And.intro hd5 hb5); clear hd5 hb5))
              go_roundw
              case rel =>
                obtain ⟨s1, s2, s3, s4⟩ := HA.out.step HX.out.1 HS4.out
                have hk5 : Kept (fun k => w.heap.size + 1 ≤ k) w4 w5 := ⟨HD5.out.2.os, HD5.out.2.tape, HD5.out.2.output, HD5.out.2.size, fun k _ hd => HD5.out.2.block k (by omega)⟩
                have hx := HX.out
                refine ⟨0, acc ++ [c], r, rfl, HS4.out.1.kept hk5 (by omega) (by omega), ?_, s2.trans hk5 (fun i hi => .inr (by omega)), hk5.heap s3 (by omega), Nat.lt_of_lt_of_le s4 hk5.size, HA.out.said.trans (HWHY.out), ?_, ?_⟩
                · rw [enc_append]; simp only [enc, List.append_nil]; exact HD5.out.1
                · have := HA.out.few; simp only [List.length_append, List.length_cons, List.length_nil] at this ⊢; omega
                · have := HA.out.low; simp only [List.length_cons] at this; omega
              case measure =>
                have hx := HX.out
                have hk5 : Kept (fun k => w.heap.size + 1 ≤ k) w4 w5 := ⟨HD5.out.2.os, HD5.out.2.tape, HD5.out.2.output, HD5.out.2.size, fun k _ hd => HD5.out.2.block k (by omega)⟩
                have e1 := (HS4.out.1.kept hk5 (by omega) (by omega)).lenAt
                have e2 := HA.out.rd.lenAt
                simp only [e1, e2, List.length_cons]
                omega
            | false =>
              have HWHY := Lib.hid (arith_no c r acc 0 (fun e => hc e.2) hb)
              clear hb hc hgc h40
              go_wp2_with (first
                | (go_at_call 99; refine HTK.out.mono ?_; rintro e w1 ⟨rfl, hs1⟩; simp only [Option.getD_none] at hs1; have HS1 := Lib.hid hs1; clear hs1; obtain ⟨⟨d0, d1, d2, d3, d4⟩, f0, f1, f2, f3, f4⟩ := zb_facts (HA.out.step HX.out.1 HS1.out).2.2.1)
                | (go_at_call 72; refine (next_any HS1.out.1).mono ?_; rintro e w2 ⟨rfl, rfl⟩; rw [next_cons])
                | (go_at_call 175; refine (HRK.out _).mono ?_; rintro e w3 ⟨rfl, hb3⟩; have HS3 := Lib.hid (HS1.out.below hb3); clear hb3; clear d0 d1 d2 d3 d4 f0 f1 f2 f3 f4; obtain ⟨⟨d0, d1, d2, d3, d4⟩, f0, f1, f2, f3, f4⟩ := zb_facts (HA.out.step HX.out.1 HS3.out).2.2.1))
              (try simp only [Exit.inBlock, Exit.then])
              refine bodyPost_ret (ret_part rfl (five_put (HA.out.step HX.out.1 HS3.out).2.2.1 _ _ _ _ _) rfl rfl) rfl ?_
              rw [← HM.out, HA.out.said, HWHY.out]
              exact ⟨.inl rfl, ⟨⟨0, [], [], [], false⟩, rfl⟩, (HA.out.step HX.out.1 HS3.out).2.1.trans (five_kept (D := fun k => w.heap.size ≤ k) (Kept.refl _ _) (.inl (Nat.le_refl _)) _ _ _ _ _) (fun _ h => .inr h)⟩
    · have hp : (0 : Int) < (n : Int) := by omega
      have hp1 : (n : Int) ≤ 4000 := by have := HA.out.low; omega
      have HP := Lib.hid (show 0 < n by omega)
      have HS1 := Lib.hid (RStep.refl HA.out.rd)
      clear hn0
      cases ys with
      | nil =>
        have HRK := Lib.hid (fun W => (show _ from by have := reckons_any 0 (.inl rfl) W; rw [show reckons 0 = false from rfl] at this; exact this))
        go_wp2_with (first
          | (go_at_call 72; refine (next_any HS1.out.1).mono ?_; rintro e w2 ⟨rfl, rfl⟩; rw [next_nil])
          | (go_at_call 175; refine (HRK.out _).mono ?_; rintro e w3 ⟨rfl, hb3⟩; have HS3 := Lib.hid (HS1.out.below hb3); clear hb3; obtain ⟨⟨d0, d1, d2, d3, d4⟩, f0, f1, f2, f3, f4⟩ := zb_facts (HA.out.step HX.out.1 HS3.out).2.2.1))
        (try simp only [Exit.inBlock, Exit.then])
        refine bodyPost_ret (ret_part rfl (five_put (HA.out.step HX.out.1 HS3.out).2.2.1 _ _ _ _ _) rfl rfl) rfl ?_
        rw [← HM.out, HA.out.said, arith_nil]
        exact ⟨.inl rfl, ⟨⟨0, [], [], [], false⟩, rfl⟩, (HA.out.step HX.out.1 HS3.out).2.1.trans (five_kept (D := fun k => w.heap.size ≤ k) (Kept.refl _ _) (.inl (Nat.le_refl _)) _ _ _ _ _) (fun _ h => .inr h)⟩
      | cons c r =>
        have hgc := HA.out.rd.good c (by simp)
        have HGC := Lib.hid hgc
        by_cases hc : c = 41
        · subst hc
          have HRK := Lib.hid (fun W => by have := reckons_any 41 (.inr HGC.out) W; rw [show reckons 41 = true from rfl] at this; exact this)
          obtain ⟨m, hm⟩ : ∃ m : Nat, n = m + 1 := ⟨n - 1, by have := HP.out; omega⟩
          subst hm
          have HWHY := Lib.hid (arith_go 41 r acc (m + 1) m (by simp) rfl (by simp))
          have hm0 : ¬ (m : Int) < 0 := by omega
          clear hgc
          go_wp2_with (first
            | (go_at_call 72; refine (next_any HS1.out.1).mono ?_; rintro e w2 ⟨rfl, rfl⟩; rw [next_cons])
            | (go_at_call 175; refine (HRK.out _).mono ?_; rintro e w3 ⟨rfl, hb3⟩; have HS3 := Lib.hid (HS1.out.below hb3); clear hb3; obtain ⟨⟨d0, d1, d2, d3, d4⟩, f0, f1, f2, f3, f4⟩ := zb_facts (HA.out.step HX.out.1 HS3.out).2.2.1)
            | (go_at_call 97; refine (take_any HS3.out.1).mono ?_; rintro e w4 ⟨rfl, hs4⟩; rw [List.tail_cons] at hs4; rw [next_cons]; have HS4 := Lib.hid (HS3.out.trans hs4); clear hs4; have HE := Lib.hid (writeRune_any (w.heap.size + 1) (w.heap.size + 1) (enc acc) 41 HGC.out w4 (HA.out.step HX.out.1 HS4.out).1 (by have h1 := (enc_length acc).2; have h2 := HA.out.few; have h3 := HF.out; omega) (Nat.le_of_lt (HA.out.step HX.out.1 HS4.out).2.2.2)))
            | (go_at_call 96; refine HE.out.mono ?_; rintro e w5 ⟨⟨n5, rfl⟩, hd5, hb5⟩; have HD5 := Lib.hid (And.intro hd5 hb5); clear hd5 hb5))
          go_roundw
          case rel =>
            obtain ⟨s1, s2, s3, s4⟩ := HA.out.step HX.out.1 HS4.out
            have hk5 : Kept (fun k => w.heap.size + 1 ≤ k) w4 w5 := ⟨HD5.out.2.os, HD5.out.2.tape, HD5.out.2.output, HD5.out.2.size, fun k _ hd => HD5.out.2.block k (by omega)⟩
            have hx := HX.out
            refine ⟨m, acc ++ [41], r, by congr 1, HS4.out.1.kept hk5 (by omega) (by omega), ?_, s2.trans hk5 (fun i hi => .inr (by omega)), hk5.heap s3 (by omega), Nat.lt_of_lt_of_le s4 hk5.size, HA.out.said.trans (HWHY.out), ?_, ?_⟩
            · rw [enc_append]; simp only [enc, List.append_nil]; exact HD5.out.1
            · have := HA.out.few; simp only [List.length_append, List.length_cons, List.length_nil] at this ⊢; omega
            · have := HA.out.low; simp only [List.length_cons] at this; omega
          case measure =>
            have hx := HX.out
            have hk5 : Kept (fun k => w.heap.size + 1 ≤ k) w4 w5 := ⟨HD5.out.2.os, HD5.out.2.tape, HD5.out.2.output, HD5.out.2.size, fun k _ hd => HD5.out.2.block k (by omega)⟩
            have e1 := (HS4.out.1.kept hk5 (by omega) (by omega)).lenAt
            have e2 := HA.out.rd.lenAt
            simp only [e1, e2, List.length_cons]
            omega
        · have hm0 : ¬ (n : Int) < 0 := by omega
          have hm1 : ¬ (n : Int) + 1 < 0 := by omega
          obtain ⟨b, hb⟩ : ∃ b, reckons c = b := ⟨_, rfl⟩
          have HRK := Lib.hid (fun W => by have := reckons_any c (.inr HGC.out) W; rw [hb] at this; exact this)
          by_cases h40 : c = 40
          · subst h40
            obtain rfl : b = true := by rw [← hb]; rfl
            have HWHY := Lib.hid (arith_go 40 r acc n (n + 1) (by simp) hb rfl)
            clear hb hc hgc
            go_wp2_with (first
              | (go_at_call 72; refine (next_any HS1.out.1).mono ?_; rintro e w2 ⟨rfl, rfl⟩; rw [next_cons])
              | (go_at_call 175; refine (HRK.out _).mono ?_; rintro e w3 ⟨rfl, hb3⟩; have HS3 := Lib.hid (HS1.out.below hb3); clear hb3; obtain ⟨⟨d0, d1, d2, d3, d4⟩, f0, f1, f2, f3, f4⟩ := zb_facts (HA.out.step HX.out.1 HS3.out).2.2.1)
              | (go_at_call 97; refine (take_any HS3.out.1).mono ?_; rintro e w4 ⟨rfl, hs4⟩; rw [List.tail_cons] at hs4; rw [next_cons]; have HS4 := Lib.hid (HS3.out.trans hs4); clear hs4; have HE := Lib.hid (writeRune_any (w.heap.size + 1) (w.heap.size + 1) (enc acc) 40 HGC.out w4 (HA.out.step HX.out.1 HS4.out).1 (by have h1 := (enc_length acc).2; have h2 := HA.out.few; have h3 := HF.out; omega) (Nat.le_of_lt (HA.out.step HX.out.1 HS4.out).2.2.2)))
              | (go_at_call 96; refine HE.out.mono ?_; rintro e w5 ⟨⟨n5, rfl⟩, hd5, hb5⟩; have HD5 := Lib.hid (And.intro hd5 hb5); clear hd5 hb5))
            go_roundw
            case rel =>
              obtain ⟨s1, s2, s3, s4⟩ := HA.out.step HX.out.1 HS4.out
              have hk5 : Kept (fun k => w.heap.size + 1 ≤ k) w4 w5 := ⟨HD5.out.2.os, HD5.out.2.tape, HD5.out.2.output, HD5.out.2.size, fun k _ hd => HD5.out.2.block k (by omega)⟩
              have hx := HX.out
              refine ⟨n + 1, acc ++ [40], r, by congr 1, HS4.out.1.kept hk5 (by omega) (by omega), ?_, s2.trans hk5 (fun i hi => .inr (by omega)), hk5.heap s3 (by omega), Nat.lt_of_lt_of_le s4 hk5.size, HA.out.said.trans (HWHY.out), ?_, ?_⟩
              · rw [enc_append]; simp only [enc, List.append_nil]; exact HD5.out.1
              · have := HA.out.few; simp only [List.length_append, List.length_cons, List.length_nil] at this ⊢; omega
              · have := HA.out.low; simp only [List.length_cons] at this; omega
            case measure =>
              have hx := HX.out
              have hk5 : Kept (fun k => w.heap.size + 1 ≤ k) w4 w5 := ⟨HD5.out.2.os, HD5.out.2.tape, HD5.out.2.output, HD5.out.2.size, fun k _ hd => HD5.out.2.block k (by omega)⟩
              have e1 := (HS4.out.1.kept hk5 (by omega) (by omega)).lenAt
              have e2 := HA.out.rd.lenAt
              simp only [e1, e2, List.length_cons]
              omega
          · have e40 : ((c : Int) == 40) = false := by
              have : ¬ (c : Int) = 40 := by omega
              simpa using this
            have e41 : ((c : Int) == 41) = false := by
              have : ¬ (c : Int) = 41 := by omega
              simpa using this
            cases b with
            | true =>
              have HWHY := Lib.hid (arith_go c r acc n n (fun e => hc e.2) hb (by rw [if_neg h40, if_neg hc]))
              clear hb hc hgc h40
              go_wp2_with (first
                | (go_at_call 72; refine (next_any HS1.out.1).mono ?_; rintro e w2 ⟨rfl, rfl⟩; rw [next_cons])
                | (go_at_call 175; refine (HRK.out _).mono ?_; rintro e w3 ⟨rfl, hb3⟩; have HS3 := Lib.hid (HS1.out.below hb3); clear hb3; obtain ⟨⟨d0, d1, d2, d3, d4⟩, f0, f1, f2, f3, f4⟩ := zb_facts (HA.out.step HX.out.1 HS3.out).2.2.1)
                | (go_at_call 97; refine (take_any HS3.out.1).mono ?_; rintro e w4 ⟨rfl, hs4⟩; rw [List.tail_cons] at hs4; rw [next_cons]; have HS4 := Lib.hid (HS3.out.trans hs4); clear hs4; have HE := Lib.hid (writeRune_any (w.heap.size + 1) (w.heap.size + 1) (enc acc) c HGC.out w4 (HA.out.step HX.out.1 HS4.out).1 (by have h1 := (enc_length acc).2; have h2 := HA.out.few; have h3 := HF.out; omega) (Nat.le_of_lt (HA.out.step HX.out.1 HS4.out).2.2.2)))
                | (go_at_call 96; refine HE.out.mono ?_; rintro e w5 ⟨⟨n5, rfl⟩, hd5, hb5⟩; have HD5 := Lib.hid (And.intro hd5 hb5); clear hd5 hb5))
              go_roundw
              case rel =>
                obtain ⟨s1, s2, s3, s4⟩ := HA.out.step HX.out.1 HS4.out
                have hk5 : Kept (fun k => w.heap.size + 1 ≤ k) w4 w5 := ⟨HD5.out.2.os, HD5.out.2.tape, HD5.out.2.output, HD5.out.2.size, fun k _ hd => HD5.out.2.block k (by omega)⟩
                have hx := HX.out
                refine ⟨n, acc ++ [c], r, rfl, HS4.out.1.kept hk5 (by omega) (by omega), ?_, s2.trans hk5 (fun i hi => .inr (by omega)), hk5.heap s3 (by omega), Nat.lt_of_lt_of_le s4 hk5.size, HA.out.said.trans (HWHY.out), ?_, ?_⟩
                · rw [enc_append]; simp only [enc, List.append_nil]; exact HD5.out.1
                · have := HA.out.few; simp only [List.length_append, List.length_cons, List.length_nil] at this ⊢; omega
                · have := HA.out.low; simp only [List.length_cons] at this; omega
              case measure =>
                have hx := HX.out
                have hk5 : Kept (fun k => w.heap.size + 1 ≤ k) w4 w5 := ⟨HD5.out.2.os, HD5.out.2.tape, HD5.out.2.output, HD5.out.2.size, fun k _ hd => HD5.out.2.block k (by omega)⟩
                have e1 := (HS4.out.1.kept hk5 (by omega) (by omega)).lenAt
                have e2 := HA.out.rd.lenAt
                simp only [e1, e2, List.length_cons]
                omega
            | false =>
              have HWHY := Lib.hid (arith_no c r acc n (fun e => hc e.2) hb)
              clear hb hc hgc h40
              go_wp2_with (first
                | (go_at_call 72; refine (next_any HS1.out.1).mono ?_; rintro e w2 ⟨rfl, rfl⟩; rw [next_cons])
                | (go_at_call 175; refine (HRK.out _).mono ?_; rintro e w3 ⟨rfl, hb3⟩; have HS3 := Lib.hid (HS1.out.below hb3); clear hb3; obtain ⟨⟨d0, d1, d2, d3, d4⟩, f0, f1, f2, f3, f4⟩ := zb_facts (HA.out.step HX.out.1 HS3.out).2.2.1))
              (try simp only [Exit.inBlock, Exit.then])
              refine bodyPost_ret (ret_part rfl (five_put (HA.out.step HX.out.1 HS3.out).2.2.1 _ _ _ _ _) rfl rfl) rfl ?_
              rw [← HM.out, HA.out.said, HWHY.out]
              exact ⟨.inl rfl, ⟨⟨0, [], [], [], false⟩, rfl⟩, (HA.out.step HX.out.1 HS3.out).2.1.trans (five_kept (D := fun k => w.heap.size ≤ k) (Kept.refl _ _) (.inl (Nat.le_refl _)) _ _ _ _ _) (fun _ h => .inr h)⟩
end Go.Proofs.YtakceggnadagmaaGreatDoor
