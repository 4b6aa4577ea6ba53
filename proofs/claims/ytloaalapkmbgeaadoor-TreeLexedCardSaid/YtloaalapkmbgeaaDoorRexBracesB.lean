/-
  Proved: texts joined: Proved: the statements' own lexer takes what stands in braces, where a parameter is followed by an operation. Conditions: it lies in memory; the text's letters are good.
  Proved: the statements' own lexer takes what stands in braces, where it asks how many letters a value has. Conditions: it lies in memory; the text's letters are good.
  Proved: the statements' own lexer takes a word's parts, whatever is next. Conditions: it lies in memory; the text's letters are good.
  Proved: the statements' own lexer finds the sign that stands next. Conditions: it lies in memory; the text's letters are good.
  Proved: a text's bytes are its letters'. Conditions: it is a text.
-/
import Derived.Test.YtloaalapkmbgeaaDoorRexBraces
import Derived.Test.YtloaalapkmbgeaaDoorLexCore
import Derived.Test.YtloaalapkmbgeaaDoorRexBase
namespace Go.Proofs.YtloaalapkmbgeaaDoor
open Go Go.RowKit GlyphMath LexMath

theorem op_good {nm : Bool} {k : Nat} {r : List Nat} (h : k = 45 ∨ k = 43 ∨ (k = 61 ∧ nm = true)) : opM nm (58 :: k :: r) = some ([58, UInt8.ofNat k], r) := by
  rcases h with rfl | rfl | ⟨rfl, rfl⟩
  · unfold opM; simp [takes]
  · unfold opM; simp [takes]
  · unfold opM; simp [takes]
theorem close_yes {p : Pt} {z : List Nat} : closeM p (125 :: z) = .ok (p, z) := by unfold closeM; simp [takes]
theorem close_no {p : Pt} {r : List Nat} (h : next r ≠ 125) : closeM p r = .error 2 := by
  unfold closeM
  rw [takes_one, if_neg fun e => h e.1]
theorem BrAt.drew {w wr : World} {X V : Nat} {q : Bool} {T O : ByteArray} {u : Value} (h : BrAt w wr X V q T O u) : BrAt w wr.drew X V q T O u := h.on ((Kept.refl _ wr).drew)

set_option maxHeartbeats 4000000 in
set_option maxRecDepth 100000 in
theorem rbrace_good {depth : Nat} {f : List Nat → Res (List Pt)} (hP : RPartsDo true (depth + 1) f) (hd : depth < 20) {w : World} {X : Nat} {s : ByteArray} {xs : List Nat} (h : LexAt w X s xs) (hs : s.size ≤ 2000) (q : Bool) (hcond : next xs = 35 → firstR (next xs.tail : Int) = false) (hfo : firstR (next xs : Int) = true ∨ other (next xs) = true) {l : List Nat} {k : Nat} {r : List Nat} (hpm : parameterM xs = .ok (l, 58 :: k :: r)) (hk : k = 45 ∨ k = 43 ∨ (k = 61 ∧ nameL l = true)) :
    Calls Tryd.prog 68 #[.pointer (some ⟨X, 0, none⟩), .bool q, .int .i64 (depth : Int)] w fun e w' => BrEnd w w' e X s q (bracesM false f xs) := by
  have hM : bracesM false f xs = match f r with
      | .error e => .error e
      | .ok (wd, r') => closeM ⟨2, enc l, [58, UInt8.ofNat k], wd, false⟩ r' := by
    rw [braces_param hpm, if_neg (show ¬ next (58 :: k :: r) = 125 from (by decide : ¬ (58 : Nat) = 125)), operation_op (r := 58 :: k :: r) (fun e => absurd (show firstR ((58 : Nat) : Int) = true from e.2) (by decide)), op_good hk]
    dsimp only
    cases f r <;> rfl
  obtain ⟨M, hMM⟩ : ∃ M, bracesM false f xs = M := ⟨_, rfl⟩
  rw [hMM] at hM ⊢
  obtain ⟨D, hD⟩ : ∃ D, f r = D := ⟨_, rfl⟩
  rw [hD] at hM
  have HM := Lib.hid hM
  have HD := Lib.hid hD
  have HP := Lib.hid hP
  have hk128 : k < 128 := by rcases hk with rfl | rfl | ⟨rfl, -⟩ <;> decide
  obtain ⟨i, hl, hp⟩ := h
  have hX := hl.lt
  have hple := hp.le
  have hl2 : Lx ((w.alloc (.cells #[.int .i64 0, .string ⟨#[]⟩, .string ⟨#[]⟩, .slice none 0 0, .bool false] 30)).alloc (.cells #[.int .i64 2, .string ⟨#[]⟩, .string ⟨#[]⟩, .slice none 0 0, .bool q] 30)) X s (i : Int) 0 := hl.kept (D := fun _ => False) (Kept.of_below (((Below.refl _ w).alloc (Nat.le_refl _) _).alloc (by simp) _)) fun _ _ h => h
  have hb2 : BrAt w ((w.alloc (.cells #[.int .i64 0, .string ⟨#[]⟩, .string ⟨#[]⟩, .slice none 0 0, .bool false] 30)).alloc (.cells #[.int .i64 2, .string ⟨#[]⟩, .string ⟨#[]⟩, .slice none 0 0, .bool q] 30)) X (w.heap.size + 1) q ⟨#[]⟩ ⟨#[]⟩ (.slice none 0 0) := by
    refine ⟨(Below.heap_alloc _ _ _ (by simp)).trans (heap_alloc_new w ZB), ?_, Kept.of_below (((Below.refl _ w).alloc (Nat.le_refl _) _).alloc (by simp) _), by omega, hX⟩
    have := heap_alloc_new (w.alloc (.cells #[.int .i64 0, .string ⟨#[]⟩, .string ⟨#[]⟩, .slice none 0 0, .bool false] 30)) (.cells #[.int .i64 2, .string ⟨#[]⟩, .string ⟨#[]⟩, .slice none 0 0, .bool q] 30)
    rwa [show (w.alloc (.cells #[.int .i64 0, .string ⟨#[]⟩, .string ⟨#[]⟩, .slice none 0 0, .bool false] 30)).heap.size = w.heap.size + 1 by simp] at this
  obtain ⟨w2, hw2⟩ : ∃ w2, (w.alloc (.cells #[.int .i64 0, .string ⟨#[]⟩, .string ⟨#[]⟩, .slice none 0 0, .bool false] 30)).alloc (.cells #[.int .i64 2, .string ⟨#[]⟩, .string ⟨#[]⟩, .slice none 0 0, .bool q] 30) = w2 := ⟨_, rfl⟩
  obtain ⟨V, hV⟩ : ∃ V, w.heap.size + 1 = V := ⟨_, rfl⟩
  rw [hw2] at hl2 hb2
  rw [hV] at hb2
  have HB2 := Lib.hid hb2
  have HL2 := Lib.hid (show LexAt w2 X s xs from ⟨i, hl2, hp⟩)
  have HAT := Lib.hid (rat_any hl2 0 (by omega))
  rw [Nat.add_zero, hp.fbn] at HAT
  have HV := Lib.hid hV
  have HS := Lib.hid hs
  have hdd : decide ((20 : Int) ≤ (depth : Int)) = false := decide_eq_false (by omega)
  have hd2 : (depth : Int) ≤ 20 := by omega
  have hpre : (∃ r, xs = 35 :: r ∧ firstR (fbn r : Int) = false) ∨ fbn xs ≠ 35 := by
    by_cases e : fbn xs = 35
    · obtain ⟨r, hr⟩ := eq_of_fbn (by decide) hp.good e
      left
      refine ⟨r, hr, ?_⟩
      rw [firstR_fbn (fun x hx => hp.good x (by rw [hr]; simp [hx]))]
      rw [hr] at hcond
      exact hcond rfl
    · exact .inr e
  have hpre2 : (fbn xs = 35 ∧ ∃ b1 : Nat, firstR (b1 : Int) = false ∧ b1 < 256 ∧ RowKit.Hid (∀ m, Calls Tryd.prog 38 #[.pointer (some ⟨X, 0, none⟩), .int .i64 1] (w2.drewN m) fun e w' => e = .returned (.int .u8 (b1 : Int)) ∧ ∃ m', w' = (w2.drewN m).drewN m')) ∨ fbn xs ≠ 35 := by
    rcases hpre with ⟨r, rfl, hf1⟩ | e
    · left
      have hp1 := hp.fbn1 (by decide)
      refine ⟨rfl, fbn r, hf1, fbn_lt hp1.good, Lib.hid fun m => ?_⟩
      have h1 := rat_any (hl2.drewN m) 1 (by have := hp1.le; omega)
      rw [hp1.fbn] at h1
      exact h1
    · exact .inr e
  obtain ⟨b0, hb0⟩ : ∃ b0, fbn xs = b0 := ⟨_, rfl⟩
  rw [hb0] at HAT hpre2
  obtain ⟨T, hT, hTe, hTa⟩ := str_ne (param_short hpm).1
  have HT := Lib.hid (And.intro hT hTa)
  clear hT hTa
  have HNM := Lib.hid (fun (W : World) (hW : Tabs W) => by
    have hsz : T.size ≤ 1000 := by
      have h1 := (enc_length l).2
      have h2 := (param_short hpm).2.1
      rw [← HT.out.2, bytes_size]
      omega
    have := rname_any T W (Nat.le_trans hsz (by decide)) hW
    rw [← HT.out.2, letters_enc l (fun c hc => ((param_short hpm).2.2 c hc).elim (fun h => hp.good c h) fun e => by
      subst e
      rcases hfo with e | e <;> exact absurd e (by decide)), HT.out.2] at this
    exact this)
  clear hl hp hX hple hl2 hb2 hs hd hM hMM hD hP hcond hpre hb0
  go_enter Tryd.func68, Tryd.ntmps68
  go_wp2_with fail
  clear hw2 hV
  rcases hpre2 with ⟨rfl, b1, hf1, hb1, HAT1⟩ | hne
  case' inl =>
    have hcv := conv_u8 b1 hb1
    clear hb1
    refine HAT.out.mono ?_
    rintro e w3 ⟨rfl, m1, rfl⟩
    go_wp2_with fail
    refine (HAT1.out m1).mono ?_
    rintro e w3 ⟨rfl, m2, rfl⟩
    go_wp2_with ((go_at_call 62; refine (rfirst_any (b1 : Int) _).mono ?_; rintro e w3 ⟨rfl, rfl⟩; rw [hf1]))
    obtain ⟨w5, hw5⟩ : ∃ w5, w2.drewN (m1 + m2) = w5 := ⟨_, rfl⟩
    have HB5 := Lib.hid (show BrAt w w5 X V q ⟨#[]⟩ ⟨#[]⟩ (.slice none 0 0) by rw [← hw5]; exact HB2.out.drewN _)
    have HL5 := Lib.hid (show LexAt w5 X s xs by rw [← hw5]; exact HL2.out.drewN _)
    rw [hw5]
    clear hw5
  case' inr =>
    have y35 : ((b0 : Int) == 35) = false := rne hne
    clear hne
    refine HAT.out.mono ?_
    rintro e w3 ⟨rfl, m1, rfl⟩
    go_wp2_with fail
    obtain ⟨w5, hw5⟩ : ∃ w5, w2.drewN m1 = w5 := ⟨_, rfl⟩
    have HB5 := Lib.hid (show BrAt w w5 X V q ⟨#[]⟩ ⟨#[]⟩ (.slice none 0 0) by rw [← hw5]; exact HB2.out.drewN _)
    have HL5 := Lib.hid (show LexAt w5 X s xs by rw [← hw5]; exact HL2.out.drewN _)
    rw [hw5]
    clear hw5
  all_goals
    refine (rparam_any HL5.out HS.out hfo).mono ?_
    intro e w6 hE
    rw [hpm] at hE
    obtain ⟨he, hle, hk6⟩ := hE
    rw [HT.out.1] at he
    subst he
    have HB6 := Lib.hid (HB5.out.on hk6)
    have HL6 := Lib.hid hle
    clear hle hk6
    obtain ⟨d0, d1, d2, d3, d4⟩ := five_cells (HB6.out).var
    have f1 := five_free HB6.out.var 1
    go_wp2_with fail
    obtain ⟨w7, hw7⟩ : ∃ w7, w6.setCell ⟨V, 1, none⟩ (.string T) = w7 := ⟨_, rfl⟩
    have HB7 := Lib.hid (show BrAt w w7 X V q T ⟨#[]⟩ (.slice none 0 0) by rw [← hw7]; exact HB6.out.text _)
    have HL7 := Lib.hid (show LexAt w7 X s (58 :: k :: r) by rw [← hw7]; exact HL6.out.var (by have := HB2.out.hV; have := HB2.out.hX; omega))
    rw [hw7]
    clear hw7
    clear f1
    clear d0 d1 d2 d3 d4
    obtain ⟨i7, hl7, hp7⟩ := HL7.out
    have HAT7 := Lib.hid (fun m => rat_any (hl7.drewN m) 0 (by have := hp7.le; have := HS.out; omega))
    rw [Nat.add_zero, hp7.fbn] at HAT7
    have hi7 : (i7 : Int) ≤ 2000 := by have := hp7.le; have := HS.out; omega
    rw [show fbn (58 :: k :: r) = 58 from rfl] at HAT7
    have hp8 := hp7.fbn1 (by decide)
    have hp9 := hp8.fbn1 hk128
    have HATB := Lib.hid (fun m => rat_any (hl7.drewN m) 1 (by have := hp8.le; have := HS.out; omega))
    rw [hp8.fbn, show fbn (k :: r) = k from ((fb_facts (hp8.good k (by simp))).2.2.1 hk128).1] at HATB
    have hex := Pos.extract (p := [58, k]) hp7
    have HOP := Lib.hid (show (⟨(enc [58, k]).toArray⟩ : ByteArray) = ⟨#[58, UInt8.ofNat k]⟩ ∧ (enc [58, k]).length = 2 from by
      simp only [enc, eb, if_pos hk128]; exact ⟨rfl, rfl⟩)
    rw [HOP.out.2, HOP.out.1] at hex
    obtain ⟨OP, hOP⟩ : ∃ OP : ByteArray, (⟨#[58, UInt8.ofNat k]⟩ : ByteArray) = OP := ⟨_, rfl⟩
    rw [hOP] at hex
    have HOPE := Lib.hid hOP
    have hsl : ∀ W, (Instr.slice 9 (.string s) (some (.int .i64 (i7 : Int))) (some (.int .i64 ((i7 : Int) + 2))) none).run Tryd.prog W = .ok (.string OP) W := fun W => by
      rw [run_slice_string W 9 s .i64 .i64 _ _ Tryd.underlying9 (by omega) (by omega) (by have := hp9.le; omega), show (i7 : Int).toNat = i7 by omega, show ((i7 : Int) + 2).toNat = i7 + 2 by omega, hex]
    have e7 : IntKind.i64.wrap ((i7 : Int) + 2) = (i7 : Int) + 2 := IntWalk.i64_in _ ⟨by omega, by omega⟩
    have HL7' := Lib.hid (And.intro hl7 hp9)
    clear hl7 hp7 hp8 hp9 hex hOP
    obtain ⟨d0, d1, d2, d3, d4⟩ := five_cells (HB7.out).var
    refine (HAT7.out 0).mono ?_
    rintro e w9 ⟨rfl, m8, rfl⟩
    go_wp2_with fail
    refine (HATB.out m8).mono ?_
    rintro e w9 ⟨rfl, m9, rfl⟩
    rw [World.drewN_drewN]
    clear d0 d1 d2 d3 d4
    rcases hk with hk | hk | ⟨hk, hnl⟩
    case' inl =>
      have u45 : ((k : Int) != 45) = false := by rw [hk]; rfl
      clear hk hk128
      go_wp2_with fail
      obtain ⟨w12, hw12⟩ : ∃ w12, w7.drewN (m8 + m9) = w12 := ⟨_, rfl⟩
      have HB12 := Lib.hid (show BrAt w w12 X V q T ⟨#[]⟩ (.slice none 0 0) by rw [← hw12]; exact HB7.out.drewN _)
      have HL12 := Lib.hid (show Lx w12 X s (i7 : Int) 0 by rw [← hw12]; exact HL7'.out.1.drewN _)
      rw [hw12]
      clear hw12
    case' inr.inl =>
      have u45 : ((k : Int) != 45) = true := by rw [hk]; rfl
      have u43 : ((k : Int) != 43) = false := by rw [hk]; rfl
      clear hk hk128
      go_wp2_with fail
      obtain ⟨w12, hw12⟩ : ∃ w12, w7.drewN (m8 + m9) = w12 := ⟨_, rfl⟩
      have HB12 := Lib.hid (show BrAt w w12 X V q T ⟨#[]⟩ (.slice none 0 0) by rw [← hw12]; exact HB7.out.drewN _)
      have HL12 := Lib.hid (show Lx w12 X s (i7 : Int) 0 by rw [← hw12]; exact HL7'.out.1.drewN _)
      rw [hw12]
      clear hw12
    case' inr.inr =>
      have u45 : ((k : Int) != 45) = true := by rw [hk]; rfl
      have u43 : ((k : Int) != 43) = true := by rw [hk]; rfl
      have u61 : ((k : Int) != 61) = false := by rw [hk]; rfl
      clear hk hk128
      obtain ⟨d0, d1, d2, d3, d4⟩ := five_cells (HB7.out.drewN (m8 + m9)).var
      go_wp2_with fail
      refine (HNM.out _ (HL7'.out.1.drewN (m8 + m9)).tabs.tabs).mono ?_
      rintro e w12 ⟨rfl, hb10⟩
      rw [hnl]
      have hk10 : Kept (fun _ => False) (w7.drewN (m8 + m9)) w12 := Kept.of_below hb10
      have HB12 := Lib.hid ((HB7.out.drewN (m8 + m9)).on (hk10.mono fun _ _ h => h.elim))
      have HL12 := Lib.hid ((HL7'.out.1.drewN (m8 + m9)).kept hk10 fun _ _ h => h)
      clear hk10 hb10 d0 d1 d2 d3 d4
      go_wp2_with fail
    all_goals
      have hlv : X < V := by have := HB2.out.hV; have := HB2.out.hX; omega
      have hl13 : Lx w12.drew X s (i7 : Int) 0 := HL12.out.drewN 1
      have hl14 : Lx (w12.drew.setCell ⟨V, 2, none⟩ (.string OP)) X s (i7 : Int) 0 := hl13.var hlv
      have t0 := hl13.c0
      have t1 := hl13.c1
      have p0 := hl14.c0
      have p1 := hl14.c1
      have q1 := hl14.fz 1
      have q2 := HL12.out.fz 1
      have q3 := HL12.out.c1
      obtain ⟨d0, d1, d2, d3, d4⟩ := five_cells HB12.out.drew.var
      have f2 := five_free HB12.out.drew.var 2
      have n1 : ¬ V = X := by omega
      have n4 : ¬ X = V := fun e => n1 e.symm
      have HV15 := Lib.hid (show BrAt w (((w12.setCell ⟨V, 2, none⟩ (.string OP)).setCell ⟨X, 1, none⟩ (.int .i64 ((i7 : Int) + 2))).drew) X V q T OP (.slice none 0 0) from ((HB12.out.op OP).on (Kept.setCell (D := fun k => k = X) (Kept.refl _ _) (.inl rfl) _)).drew)
      have HX15 := Lib.hid (show LexAt (((w12.setCell ⟨V, 2, none⟩ (.string OP)).setCell ⟨X, 1, none⟩ (.int .i64 ((i7 : Int) + 2))).drew) X s r from (show LexAt ((w12.setCell ⟨V, 2, none⟩ (.string OP)).setCell ⟨X, 1, none⟩ (.int .i64 ((i7 : Int) + 2))) X s r from ⟨i7 + 1 + 1, (HL12.out.var hlv).put1 _, HL7'.out.2⟩).drew)
      clear hl13 hl14
      go_region_held (fun W => W.cell? ⟨X, 0, none⟩ = some (.string s) ∧ W.cell? ⟨X, 1, none⟩ = some (.int .i64 (i7 : Int))) (first | exact ⟨t0, t1⟩ | exact ⟨p0, p1⟩ | assumption) (fail)
      go_wp2_with fail
      obtain ⟨w13, hw13⟩ : ∃ w13, ((w12.setCell ⟨V, 2, none⟩ (.string OP)).setCell ⟨X, 1, none⟩ (.int .i64 ((i7 : Int) + 2))).drew = w13 := ⟨_, rfl⟩
      rw [hw13] at HV15 HX15 ⊢
      clear hw13 t0 t1 p0 p1 q1 q2 q3 f2
      clear d0 d1 d2 d3 d4
      have hpa := HP.out w13 X s r HX15.out HS.out
      rw [HD.out, show ((depth + 1 : Nat) : Int) = (depth : Int) + 1 by omega] at hpa
      refine hpa.mono ?_
      clear hpa
      intro e w14 hE
      cases D with
      | error cc =>
        obtain ⟨⟨a3, n3, k3, rfl⟩, hle, hk14⟩ := hE
        have HB14 := Lib.hid (HV15.out.on hk14)
        have HL14 := Lib.hid hle
        clear hle hk14
        obtain ⟨d0, d1, d2, d3, d4⟩ := five_cells (HB14.out).var
        have f3 := five_free HB14.out.var 3
        go_wp2_with fail
        obtain ⟨w17, hw17⟩ : ∃ w17, w14.setCell ⟨V, 3, none⟩ (.slice a3 n3 k3) = w17 := ⟨_, rfl⟩
        have HB17 := Lib.hid (show BrAt w w17 X V q T OP (.slice a3 n3 k3) by rw [← hw17]; exact HB14.out.word _)
        have HL17 := Lib.hid (show LexErr w17 X s cc by rw [← hw17]; exact HL14.out.var (by have := HB2.out.hV; have := HB2.out.hX; omega))
        rw [hw17]
        clear hw17
        clear f3
        clear d0 d1 d2 d3 d4
        obtain ⟨j9, hlx⟩ := (HL17.out).2
        refine (rat_err hlx (HL17.out).ne.1 0).mono ?_
        rintro e w9 ⟨rfl, m9, rfl⟩
        go_wp2_with fail
        refine (rfail_yes (hlx.drewN m9) (HL17.out).ne.2 2).mono ?_
        rintro e w9 ⟨rfl, rfl⟩
        have c1 := (hlx.drewN m9).c1
        have g1 := (hlx.drewN m9).fz 1
        (try clear d0 d1 d2 d3 d4)
        obtain ⟨d0, d1, d2, d3, d4⟩ := five_cells ((HB17.out).drewN m9).var
        obtain ⟨x0, x1, x2, x3, x4⟩ := five_cells ((HB17.out).drewN m9).res
        have y := five_free ((HB17.out).drewN m9).res
        have y0 := y 0
        have y1 := y 1
        have y2 := y 2
        have y3 := y 3
        have y4 := y 4
        have n1 : ¬ V = X := by have := ((HB17.out).drewN m9).hV; have := ((HB17.out).drewN m9).hX; omega
        have n2 : ¬ w.heap.size = X := by have := ((HB17.out).drewN m9).hX; omega
        have n3 : ¬ V = w.heap.size := by have := ((HB17.out).drewN m9).hV; omega
        have n4 : ¬ X = V := fun e => n1 e.symm
        have n5 : ¬ X = w.heap.size := fun e => n2 e.symm
        have n6 : ¬ w.heap.size = V := fun e => n3 e.symm
        clear y
        go_wp2_with fail
        refine bodyPost_ret (ret_one rfl (((HB17.out).drewN m9).on (Kept.setCell (D := fun k => k = X) (Kept.refl _ _) (.inl rfl) _) |>.fin _ _ _ _ _).1 rfl) rfl ?_
        rw [HM.out]
        exact ((HB17.out).drewN m9).end_err ((HL17.out).drewN m9) _
      | ok a =>
        obtain ⟨wd, r3⟩ := a
        obtain ⟨v3, rfl, hwn, hle, hk14⟩ := hE
        obtain ⟨a3, n3, k3, rfl⟩ := wordN_shape hwn
        have HB14 := Lib.hid (HV15.out.on hk14)
        have HL14 := Lib.hid hle
        have HW17 := Lib.hid (show WordN (w14.setCell ⟨V, 3, none⟩ (.slice a3 n3 k3)) (w.heap.size + 1) (.slice a3 n3 k3) wd from by
          have hvl : V < w13.heap.size := (Array.getElem?_eq_some_iff.1 HV15.out.var).1
          have hvw := HV15.out.hV
          exact (hwn.kept kept_var fun k hk => by omega).base (by omega))
        clear hle hk14 hwn
        obtain ⟨d0, d1, d2, d3, d4⟩ := five_cells (HB14.out).var
        have f3 := five_free HB14.out.var 3
        go_wp2_with fail
        obtain ⟨w17, hw17⟩ : ∃ w17, w14.setCell ⟨V, 3, none⟩ (.slice a3 n3 k3) = w17 := ⟨_, rfl⟩
        have HB17 := Lib.hid (show BrAt w w17 X V q T OP (.slice a3 n3 k3) by rw [← hw17]; exact HB14.out.word _)
        have HL17 := Lib.hid (show LexAt w17 X s r3 by rw [← hw17]; exact HL14.out.var (by have := HB2.out.hV; have := HB2.out.hX; omega))
        rw [hw17] at HW17 ⊢
        clear hw17
        clear f3
        clear d0 d1 d2 d3 d4
        obtain ⟨i9, hl9, hp9⟩ := HL17.out
        have HAT7 := Lib.hid (fun m => rat_any (hl9.drewN m) 0 (by have := hp9.le; have := HS.out; omega))
        rw [Nat.add_zero, hp9.fbn] at HAT7
        have hi9 : (i9 : Int) ≤ 2000 := by have := hp9.le; have := HS.out; omega
        by_cases h125 : fbn r3 = 125
        · obtain ⟨z, rfl⟩ := eq_of_fbn (by decide) hp9.good h125
          rw [show fbn (125 :: z) = 125 from rfl] at HAT7
          have HL9 := Lib.hid (And.intro hl9 hp9)
          clear hl9 hp9 h125
          obtain ⟨d0, d1, d2, d3, d4⟩ := five_cells (HB17.out).var
          refine (HAT7.out 0).mono ?_
          rintro e w9 ⟨rfl, m9, rfl⟩
          have c1 := (HL9.out.1.drewN m9).c1
          have g1 := (HL9.out.1.drewN m9).fz 1
          (try clear d0 d1 d2 d3 d4)
          obtain ⟨d0, d1, d2, d3, d4⟩ := five_cells ((HB17.out).drewN m9).var
          obtain ⟨x0, x1, x2, x3, x4⟩ := five_cells ((HB17.out).drewN m9).res
          have y := five_free ((HB17.out).drewN m9).res
          have y0 := y 0
          have y1 := y 1
          have y2 := y 2
          have y3 := y 3
          have y4 := y 4
          have n1 : ¬ V = X := by have := ((HB17.out).drewN m9).hV; have := ((HB17.out).drewN m9).hX; omega
          have n2 : ¬ w.heap.size = X := by have := ((HB17.out).drewN m9).hX; omega
          have n3 : ¬ V = w.heap.size := by have := ((HB17.out).drewN m9).hV; omega
          have n4 : ¬ X = V := fun e => n1 e.symm
          have n5 : ¬ X = w.heap.size := fun e => n2 e.symm
          have n6 : ¬ w.heap.size = V := fun e => n3 e.symm
          clear y
          go_wp2_with fail
          refine bodyPost_ret (ret_one rfl (((HB17.out).drewN m9).on (Kept.setCell (D := fun k => k = X) (Kept.refl _ _) (.inl rfl) _) |>.fin _ _ _ _ _).1 rfl) rfl ?_
          rw [HM.out]
          show BrEnd _ _ _ _ _ _ (closeM _ (125 :: z))
          rw [close_yes]
          exact (HB17.out.drewN m9).end_ok (HL9.out.1.drewN m9) HL9.out.2 rfl HT.out.1 (by rw [← HOPE.out]; rfl) (HW17.out.kept ((Kept.refl (fun _ => False) _).drewN m9) fun _ _ h => h)
        · have h125' : next r3 ≠ 125 := fun e => h125 ((fbn_iff hp9.good (by decide)).2 e)
          obtain ⟨b, hb⟩ : ∃ b, fbn r3 = b := ⟨_, rfl⟩
          rw [hb] at HAT7 h125
          have y125 : ((b : Int) == 125) = false := rne h125
          have HM2 := Lib.hid (show M = .error 2 from by rw [HM.out]; exact close_no h125')
          have HL9 := Lib.hid hl9
          clear hl9 hp9 h125 h125' hb
          obtain ⟨d0, d1, d2, d3, d4⟩ := five_cells (HB17.out).var
          refine (HAT7.out 0).mono ?_
          rintro e w9 ⟨rfl, m9, rfl⟩
          go_wp2_with fail
          refine (rfail_no (HL9.out.drewN m9) 2).mono ?_
          rintro e w10 ⟨rfl, hl10, hk10⟩
          have HB10 := Lib.hid (((HB17.out).drewN m9).on hk10)
          have HL10 := Lib.hid (show LexErr w10 X s 2 from ⟨.inl rfl, _, hl10⟩)
          have c1 := hl10.c1
          have g1 := hl10.fz 1
          clear hl10 hk10
          (try clear d0 d1 d2 d3 d4)
          obtain ⟨d0, d1, d2, d3, d4⟩ := five_cells (HB10.out).var
          obtain ⟨x0, x1, x2, x3, x4⟩ := five_cells (HB10.out).res
          have y := five_free (HB10.out).res
          have y0 := y 0
          have y1 := y 1
          have y2 := y 2
          have y3 := y 3
          have y4 := y 4
          have n1 : ¬ V = X := by have := (HB10.out).hV; have := (HB10.out).hX; omega
          have n2 : ¬ w.heap.size = X := by have := (HB10.out).hX; omega
          have n3 : ¬ V = w.heap.size := by have := (HB10.out).hV; omega
          have n4 : ¬ X = V := fun e => n1 e.symm
          have n5 : ¬ X = w.heap.size := fun e => n2 e.symm
          have n6 : ¬ w.heap.size = V := fun e => n3 e.symm
          clear y
          go_wp2_with fail
          refine bodyPost_ret (ret_one rfl (HB10.out.on (Kept.setCell (D := fun k => k = X) (Kept.refl _ _) (.inl rfl) _) |>.fin _ _ _ _ _).1 rfl) rfl ?_
          rw [HM2.out]
          exact HB10.out.end_err HL10.out _
end Go.Proofs.YtloaalapkmbgeaaDoor

namespace Go.Proofs.YtloaalapkmbgeaaDoor
open Go Go.RowKit GlyphMath LexMath

theorem braces_hash {f : List Nat → Res (List Pt)} {r : List Nat} (hf : firstR (next r : Int) = true) : bracesM false f (35 :: r) = match nameM r with
    | .error e => .error e
    | .ok (l', r') => closeM ⟨2, enc l', [35], [], false⟩ r' := by
  have hp : parameterM (35 :: r) = .ok ([35], r) := by unfold parameterM; rw [show other (next (35 :: r)) = true from (by decide : other 35 = true), if_pos rfl]; rfl
  have ho : other (next r) = false := by
    cases e : other (next r) with
    | false => rfl
    | true =>
      exfalso
      unfold other at e
      unfold firstR at hf
      simp at e hf
      omega
  rw [braces_param hp, if_neg fun e => by rw [e] at hf; exact absurd hf (by decide)]
  unfold operationM
  rw [if_pos ⟨rfl, hf⟩, param_name hf ho]
  cases nameM r <;> rfl
theorem name_short {r l r' : List Nat} (hf : firstR (next r : Int) = true) (h : nameM r = .ok (l, r')) : l ≠ [] := by
  unfold nameM at h
  split at h
  · cases h
    cases r with
    | nil => exact absurd hf (by decide)
    | cons c z =>
      have hm : moreR (c : Int) = true := by unfold moreR; rw [show firstR (c : Int) = true from hf]; rfl
      rw [got]; simp [hm]
  · cases h

set_option maxHeartbeats 4000000 in
set_option maxRecDepth 100000 in
theorem rbrace_herr {depth : Nat} {f : List Nat → Res (List Pt)} (hd : depth < 20) {w : World} {X : Nat} {s : ByteArray} {r : List Nat} (h : LexAt w X s (35 :: r)) (hs : s.size ≤ 2000) (q : Bool) (hf : firstR (next r : Int) = true) {cc : Nat} (hnm : nameM r = .error cc) :
    Calls Tryd.prog 68 #[.pointer (some ⟨X, 0, none⟩), .bool q, .int .i64 (depth : Int)] w fun e w' => BrEnd w w' e X s q (bracesM false f (35 :: r)) := by
  have hM : bracesM false f (35 :: r) = .error cc := by rw [braces_hash hf, hnm]
  rw [hM]
  obtain ⟨i, hl, hp⟩ := h
  have hX := hl.lt
  have hple := hp.le
  have hl2 : Lx ((w.alloc (.cells #[.int .i64 0, .string ⟨#[]⟩, .string ⟨#[]⟩, .slice none 0 0, .bool false] 30)).alloc (.cells #[.int .i64 2, .string ⟨#[]⟩, .string ⟨#[]⟩, .slice none 0 0, .bool q] 30)) X s (i : Int) 0 := hl.kept (D := fun _ => False) (Kept.of_below (((Below.refl _ w).alloc (Nat.le_refl _) _).alloc (by simp) _)) fun _ _ h => h
  have hb2 : BrAt w ((w.alloc (.cells #[.int .i64 0, .string ⟨#[]⟩, .string ⟨#[]⟩, .slice none 0 0, .bool false] 30)).alloc (.cells #[.int .i64 2, .string ⟨#[]⟩, .string ⟨#[]⟩, .slice none 0 0, .bool q] 30)) X (w.heap.size + 1) q ⟨#[]⟩ ⟨#[]⟩ (.slice none 0 0) := by
    refine ⟨(Below.heap_alloc _ _ _ (by simp)).trans (heap_alloc_new w ZB), ?_, Kept.of_below (((Below.refl _ w).alloc (Nat.le_refl _) _).alloc (by simp) _), by omega, hX⟩
    have := heap_alloc_new (w.alloc (.cells #[.int .i64 0, .string ⟨#[]⟩, .string ⟨#[]⟩, .slice none 0 0, .bool false] 30)) (.cells #[.int .i64 2, .string ⟨#[]⟩, .string ⟨#[]⟩, .slice none 0 0, .bool q] 30)
    rwa [show (w.alloc (.cells #[.int .i64 0, .string ⟨#[]⟩, .string ⟨#[]⟩, .slice none 0 0, .bool false] 30)).heap.size = w.heap.size + 1 by simp] at this
  obtain ⟨w2, hw2⟩ : ∃ w2, (w.alloc (.cells #[.int .i64 0, .string ⟨#[]⟩, .string ⟨#[]⟩, .slice none 0 0, .bool false] 30)).alloc (.cells #[.int .i64 2, .string ⟨#[]⟩, .string ⟨#[]⟩, .slice none 0 0, .bool q] 30) = w2 := ⟨_, rfl⟩
  obtain ⟨V, hV⟩ : ∃ V, w.heap.size + 1 = V := ⟨_, rfl⟩
  rw [hw2] at hl2 hb2
  rw [hV] at hb2
  have HB2 := Lib.hid hb2
  have HL2 := Lib.hid (show LexAt w2 X s (35 :: r) from ⟨i, hl2, hp⟩)
  have HAT := Lib.hid (rat_any hl2 0 (by omega))
  rw [Nat.add_zero, hp.fbn] at HAT
  have HV := Lib.hid hV
  have HS := Lib.hid hs
  have hdd : decide ((20 : Int) ≤ (depth : Int)) = false := decide_eq_false (by omega)
  have hd2 : (depth : Int) ≤ 20 := by omega
  rw [show fbn (35 :: r) = 35 from rfl] at HAT
  have hp1 := hp.fbn1 (by decide)
  have HAT1 := Lib.hid (fun m => rat_any (hl2.drewN m) 1 (by have := hp1.le; omega))
  rw [hp1.fbn] at HAT1
  have hcv := conv_u8 _ (fbn_lt hp1.good)
  have hff := hf
  rw [← firstR_fbn hp1.good] at hff
  obtain ⟨b1, hb1⟩ : ∃ b1, fbn r = b1 := ⟨_, rfl⟩
  rw [hb1] at HAT1 hcv hff
  have hi2 : (i : Int) + 1 ≤ 2000 := by have := hp1.le; omega
  have HLX := Lib.hid (And.intro hl2 hp1)
  clear hl hp hX hple hl2 hb2 hs hd hM hp1 hb1
  go_enter Tryd.func68, Tryd.ntmps68
  go_wp2_with fail
  clear hw2 hV
  refine HAT.out.mono ?_
  rintro e w3 ⟨rfl, m1, rfl⟩
  go_wp2_with fail
  refine (HAT1.out m1).mono ?_
  rintro e w3 ⟨rfl, m2, rfl⟩
  rw [World.drewN_drewN]
  have c1 := (HLX.out.1.drewN (m1 + m2)).c1
  have g1 := (HLX.out.1.drewN (m1 + m2)).fz 1
  obtain ⟨d0, d1, d2, d3, d4⟩ := five_cells (HB2.out.drewN (m1 + m2)).var
  have f2 := five_free (HB2.out.drewN (m1 + m2)).var 2
  have n1 : ¬ V = X := by have := HB2.out.hV; have := HB2.out.hX; omega
  have n4 : ¬ X = V := fun e => n1 e.symm
  go_wp2_with ((go_at_call 62; refine (rfirst_any (b1 : Int) _).mono ?_; rintro e w3 ⟨rfl, rfl⟩; rw [hff]))
  obtain ⟨w5, hw5⟩ : ∃ w5, (((w2.drewN (m1 + m2)).setCell ⟨X, 1, none⟩ (.int .i64 ((i : Int) + 1))).setCell ⟨V, 2, none⟩ (.string ⟨#[35]⟩)) = w5 := ⟨_, rfl⟩
  have HB5 := Lib.hid (show BrAt w w5 X V q ⟨#[]⟩ ⟨#[35]⟩ (.slice none 0 0) by rw [← hw5]; exact ((HB2.out.drewN _).on (Kept.setCell (D := fun k => k = X) (Kept.refl _ _) (.inl rfl) _)).op _)
  have HL5 := Lib.hid (show LexAt w5 X s r by rw [← hw5]; exact (show LexAt ((w2.drewN (m1 + m2)).setCell ⟨X, 1, none⟩ (.int .i64 ((i : Int) + 1))) X s r from ⟨i + 1, (HLX.out.1.drewN _).put1 _, HLX.out.2⟩).var (by have := HB2.out.hV; have := HB2.out.hX; omega))
  rw [hw5]
  clear hw5 c1 g1 f2 n1 n4 d0 d1 d2 d3 d4
  refine (lname_any HL5.out HS.out hf).mono ?_
  intro e w6 hE
  rw [hnm] at hE
  obtain ⟨⟨T, rfl⟩, hle, hk6⟩ := hE
  have HB6 := Lib.hid (HB5.out.on hk6)
  have HL6 := Lib.hid hle
  clear hle hk6
  obtain ⟨d0, d1, d2, d3, d4⟩ := five_cells (HB6.out).var
  have f1 := five_free HB6.out.var 1
  cases hT : T.toList.isEmpty with
  | true =>
    go_wp2_with fail
    obtain ⟨w7, hw7⟩ : ∃ w7, w6.setCell ⟨V, 1, none⟩ (.string T) = w7 := ⟨_, rfl⟩
    have HB7 := Lib.hid (show BrAt w w7 X V q T ⟨#[35]⟩ (.slice none 0 0) by rw [← hw7]; exact HB6.out.text _)
    have HL7 := Lib.hid (show LexErr w7 X s cc by rw [← hw7]; exact HL6.out.var (by have := HB2.out.hV; have := HB2.out.hX; omega))
    rw [hw7]
    clear hw7
    clear f1
    clear d0 d1 d2 d3 d4
    obtain ⟨j9, hlx⟩ := HL7.out.2
    refine (rfail_yes hlx HL7.out.ne.2 2).mono ?_
    rintro e w8 ⟨rfl, rfl⟩
    clear hlx
    obtain ⟨d0, d1, d2, d3, d4⟩ := five_cells (HB7.out).var
    go_wp2_with fail
    obtain ⟨j9, hlx⟩ := (HL7.out).2
    refine (rat_err hlx (HL7.out).ne.1 0).mono ?_
    rintro e w9 ⟨rfl, m9, rfl⟩
    go_wp2_with fail
    refine (rfail_yes (hlx.drewN m9) (HL7.out).ne.2 2).mono ?_
    rintro e w9 ⟨rfl, rfl⟩
    have c1 := (hlx.drewN m9).c1
    have g1 := (hlx.drewN m9).fz 1
    (try clear d0 d1 d2 d3 d4)
    obtain ⟨d0, d1, d2, d3, d4⟩ := five_cells ((HB7.out).drewN m9).var
    obtain ⟨x0, x1, x2, x3, x4⟩ := five_cells ((HB7.out).drewN m9).res
    have y := five_free ((HB7.out).drewN m9).res
    have y0 := y 0
    have y1 := y 1
    have y2 := y 2
    have y3 := y 3
    have y4 := y 4
    have n1 : ¬ V = X := by have := ((HB7.out).drewN m9).hV; have := ((HB7.out).drewN m9).hX; omega
    have n2 : ¬ w.heap.size = X := by have := ((HB7.out).drewN m9).hX; omega
    have n3 : ¬ V = w.heap.size := by have := ((HB7.out).drewN m9).hV; omega
    have n4 : ¬ X = V := fun e => n1 e.symm
    have n5 : ¬ X = w.heap.size := fun e => n2 e.symm
    have n6 : ¬ w.heap.size = V := fun e => n3 e.symm
    clear y
    go_wp2_with fail
    refine bodyPost_ret (ret_one rfl (((HB7.out).drewN m9).on (Kept.setCell (D := fun k => k = X) (Kept.refl _ _) (.inl rfl) _) |>.fin _ _ _ _ _).1 rfl) rfl ?_
    exact ((HB7.out).drewN m9).end_err ((HL7.out).drewN m9) _
  | false =>
    go_wp2_with fail
    obtain ⟨w7, hw7⟩ : ∃ w7, w6.setCell ⟨V, 1, none⟩ (.string T) = w7 := ⟨_, rfl⟩
    have HB7 := Lib.hid (show BrAt w w7 X V q T ⟨#[35]⟩ (.slice none 0 0) by rw [← hw7]; exact HB6.out.text _)
    have HL7 := Lib.hid (show LexErr w7 X s cc by rw [← hw7]; exact HL6.out.var (by have := HB2.out.hV; have := HB2.out.hX; omega))
    rw [hw7]
    clear hw7
    clear f1
    clear d0 d1 d2 d3 d4
    obtain ⟨j9, hlx⟩ := (HL7.out).2
    refine (rat_err hlx (HL7.out).ne.1 0).mono ?_
    rintro e w9 ⟨rfl, m9, rfl⟩
    go_wp2_with fail
    refine (rfail_yes (hlx.drewN m9) (HL7.out).ne.2 2).mono ?_
    rintro e w9 ⟨rfl, rfl⟩
    have c1 := (hlx.drewN m9).c1
    have g1 := (hlx.drewN m9).fz 1
    (try clear d0 d1 d2 d3 d4)
    obtain ⟨d0, d1, d2, d3, d4⟩ := five_cells ((HB7.out).drewN m9).var
    obtain ⟨x0, x1, x2, x3, x4⟩ := five_cells ((HB7.out).drewN m9).res
    have y := five_free ((HB7.out).drewN m9).res
    have y0 := y 0
    have y1 := y 1
    have y2 := y 2
    have y3 := y 3
    have y4 := y 4
    have n1 : ¬ V = X := by have := ((HB7.out).drewN m9).hV; have := ((HB7.out).drewN m9).hX; omega
    have n2 : ¬ w.heap.size = X := by have := ((HB7.out).drewN m9).hX; omega
    have n3 : ¬ V = w.heap.size := by have := ((HB7.out).drewN m9).hV; omega
    have n4 : ¬ X = V := fun e => n1 e.symm
    have n5 : ¬ X = w.heap.size := fun e => n2 e.symm
    have n6 : ¬ w.heap.size = V := fun e => n3 e.symm
    clear y
    go_wp2_with fail
    refine bodyPost_ret (ret_one rfl (((HB7.out).drewN m9).on (Kept.setCell (D := fun k => k = X) (Kept.refl _ _) (.inl rfl) _) |>.fin _ _ _ _ _).1 rfl) rfl ?_
    exact ((HB7.out).drewN m9).end_err ((HL7.out).drewN m9) _

set_option maxHeartbeats 4000000 in
set_option maxRecDepth 100000 in
theorem rbrace_hok {depth : Nat} {f : List Nat → Res (List Pt)} (hd : depth < 20) {w : World} {X : Nat} {s : ByteArray} {r : List Nat} (h : LexAt w X s (35 :: r)) (hs : s.size ≤ 2000) (q : Bool) (hf : firstR (next r : Int) = true) {l r' : List Nat} (hnm : nameM r = .ok (l, r')) :
    Calls Tryd.prog 68 #[.pointer (some ⟨X, 0, none⟩), .bool q, .int .i64 (depth : Int)] w fun e w' => BrEnd w w' e X s q (bracesM false f (35 :: r)) := by
  have hM : bracesM false f (35 :: r) = closeM ⟨2, enc l, [35], [], false⟩ r' := by rw [braces_hash hf, hnm]
  rw [hM]
  obtain ⟨T, hT, hTe, hTa⟩ := str_ne (name_short hf hnm)
  have HT := Lib.hid (And.intro hT hTa)
  clear hT hTa
  obtain ⟨i, hl, hp⟩ := h
  have hX := hl.lt
  have hple := hp.le
  have hl2 : Lx ((w.alloc (.cells #[.int .i64 0, .string ⟨#[]⟩, .string ⟨#[]⟩, .slice none 0 0, .bool false] 30)).alloc (.cells #[.int .i64 2, .string ⟨#[]⟩, .string ⟨#[]⟩, .slice none 0 0, .bool q] 30)) X s (i : Int) 0 := hl.kept (D := fun _ => False) (Kept.of_below (((Below.refl _ w).alloc (Nat.le_refl _) _).alloc (by simp) _)) fun _ _ h => h
  have hb2 : BrAt w ((w.alloc (.cells #[.int .i64 0, .string ⟨#[]⟩, .string ⟨#[]⟩, .slice none 0 0, .bool false] 30)).alloc (.cells #[.int .i64 2, .string ⟨#[]⟩, .string ⟨#[]⟩, .slice none 0 0, .bool q] 30)) X (w.heap.size + 1) q ⟨#[]⟩ ⟨#[]⟩ (.slice none 0 0) := by
    refine ⟨(Below.heap_alloc _ _ _ (by simp)).trans (heap_alloc_new w ZB), ?_, Kept.of_below (((Below.refl _ w).alloc (Nat.le_refl _) _).alloc (by simp) _), by omega, hX⟩
    have := heap_alloc_new (w.alloc (.cells #[.int .i64 0, .string ⟨#[]⟩, .string ⟨#[]⟩, .slice none 0 0, .bool false] 30)) (.cells #[.int .i64 2, .string ⟨#[]⟩, .string ⟨#[]⟩, .slice none 0 0, .bool q] 30)
    rwa [show (w.alloc (.cells #[.int .i64 0, .string ⟨#[]⟩, .string ⟨#[]⟩, .slice none 0 0, .bool false] 30)).heap.size = w.heap.size + 1 by simp] at this
  obtain ⟨w2, hw2⟩ : ∃ w2, (w.alloc (.cells #[.int .i64 0, .string ⟨#[]⟩, .string ⟨#[]⟩, .slice none 0 0, .bool false] 30)).alloc (.cells #[.int .i64 2, .string ⟨#[]⟩, .string ⟨#[]⟩, .slice none 0 0, .bool q] 30) = w2 := ⟨_, rfl⟩
  obtain ⟨V, hV⟩ : ∃ V, w.heap.size + 1 = V := ⟨_, rfl⟩
  rw [hw2] at hl2 hb2
  rw [hV] at hb2
  have HB2 := Lib.hid hb2
  have HL2 := Lib.hid (show LexAt w2 X s (35 :: r) from ⟨i, hl2, hp⟩)
  have HAT := Lib.hid (rat_any hl2 0 (by omega))
  rw [Nat.add_zero, hp.fbn] at HAT
  have HV := Lib.hid hV
  have HS := Lib.hid hs
  have hdd : decide ((20 : Int) ≤ (depth : Int)) = false := decide_eq_false (by omega)
  have hd2 : (depth : Int) ≤ 20 := by omega
  rw [show fbn (35 :: r) = 35 from rfl] at HAT
  have hp1 := hp.fbn1 (by decide)
  have HAT1 := Lib.hid (fun m => rat_any (hl2.drewN m) 1 (by have := hp1.le; omega))
  rw [hp1.fbn] at HAT1
  have hcv := conv_u8 _ (fbn_lt hp1.good)
  have hff := hf
  rw [← firstR_fbn hp1.good] at hff
  obtain ⟨b1, hb1⟩ : ∃ b1, fbn r = b1 := ⟨_, rfl⟩
  rw [hb1] at HAT1 hcv hff
  have hi2 : (i : Int) + 1 ≤ 2000 := by have := hp1.le; omega
  have HLX := Lib.hid (And.intro hl2 hp1)
  clear hl hp hX hple hl2 hb2 hs hd hM hp1 hb1
  go_enter Tryd.func68, Tryd.ntmps68
  go_wp2_with fail
  clear hw2 hV
  refine HAT.out.mono ?_
  rintro e w3 ⟨rfl, m1, rfl⟩
  go_wp2_with fail
  refine (HAT1.out m1).mono ?_
  rintro e w3 ⟨rfl, m2, rfl⟩
  rw [World.drewN_drewN]
  have c1 := (HLX.out.1.drewN (m1 + m2)).c1
  have g1 := (HLX.out.1.drewN (m1 + m2)).fz 1
  obtain ⟨d0, d1, d2, d3, d4⟩ := five_cells (HB2.out.drewN (m1 + m2)).var
  have f2 := five_free (HB2.out.drewN (m1 + m2)).var 2
  have n1 : ¬ V = X := by have := HB2.out.hV; have := HB2.out.hX; omega
  have n4 : ¬ X = V := fun e => n1 e.symm
  go_wp2_with ((go_at_call 62; refine (rfirst_any (b1 : Int) _).mono ?_; rintro e w3 ⟨rfl, rfl⟩; rw [hff]))
  obtain ⟨w5, hw5⟩ : ∃ w5, (((w2.drewN (m1 + m2)).setCell ⟨X, 1, none⟩ (.int .i64 ((i : Int) + 1))).setCell ⟨V, 2, none⟩ (.string ⟨#[35]⟩)) = w5 := ⟨_, rfl⟩
  have HB5 := Lib.hid (show BrAt w w5 X V q ⟨#[]⟩ ⟨#[35]⟩ (.slice none 0 0) by rw [← hw5]; exact ((HB2.out.drewN _).on (Kept.setCell (D := fun k => k = X) (Kept.refl _ _) (.inl rfl) _)).op _)
  have HL5 := Lib.hid (show LexAt w5 X s r by rw [← hw5]; exact (show LexAt ((w2.drewN (m1 + m2)).setCell ⟨X, 1, none⟩ (.int .i64 ((i : Int) + 1))) X s r from ⟨i + 1, (HLX.out.1.drewN _).put1 _, HLX.out.2⟩).var (by have := HB2.out.hV; have := HB2.out.hX; omega))
  rw [hw5]
  clear hw5 c1 g1 f2 n1 n4 d0 d1 d2 d3 d4
  refine (lname_any HL5.out HS.out hf).mono ?_
  intro e w6 hE
  rw [hnm] at hE
  obtain ⟨he, hle, hk6⟩ := hE
  rw [HT.out.1] at he
  subst he
  have HB6 := Lib.hid (HB5.out.on hk6)
  have HL6 := Lib.hid hle
  clear hle hk6
  obtain ⟨d0, d1, d2, d3, d4⟩ := five_cells (HB6.out).var
  have f1 := five_free HB6.out.var 1
  go_wp2_with fail
  obtain ⟨w7, hw7⟩ : ∃ w7, w6.setCell ⟨V, 1, none⟩ (.string T) = w7 := ⟨_, rfl⟩
  have HB7 := Lib.hid (show BrAt w w7 X V q T ⟨#[35]⟩ (.slice none 0 0) by rw [← hw7]; exact HB6.out.text _)
  have HL7 := Lib.hid (show LexAt w7 X s r' by rw [← hw7]; exact HL6.out.var (by have := HB2.out.hV; have := HB2.out.hX; omega))
  rw [hw7]
  clear hw7
  clear f1
  clear d0 d1 d2 d3 d4
  obtain ⟨i7, hl7, hp7⟩ := HL7.out
  have HAT7 := Lib.hid (fun m => rat_any (hl7.drewN m) 0 (by have := hp7.le; have := HS.out; omega))
  rw [Nat.add_zero, hp7.fbn] at HAT7
  have hi7 : (i7 : Int) ≤ 2000 := by have := hp7.le; have := HS.out; omega
  by_cases h125 : fbn r' = 125
  · obtain ⟨z, rfl⟩ := eq_of_fbn (by decide) hp7.good h125
    rw [show fbn (125 :: z) = 125 from rfl] at HAT7
    have HL9 := Lib.hid (And.intro hl7 hp7)
    clear hl7 hp7 h125
    obtain ⟨d0, d1, d2, d3, d4⟩ := five_cells (HB7.out).var
    refine (HAT7.out 0).mono ?_
    rintro e w9 ⟨rfl, m9, rfl⟩
    have c1 := (HL9.out.1.drewN m9).c1
    have g1 := (HL9.out.1.drewN m9).fz 1
    (try clear d0 d1 d2 d3 d4)
    obtain ⟨d0, d1, d2, d3, d4⟩ := five_cells ((HB7.out).drewN m9).var
    obtain ⟨x0, x1, x2, x3, x4⟩ := five_cells ((HB7.out).drewN m9).res
    have y := five_free ((HB7.out).drewN m9).res
    have y0 := y 0
    have y1 := y 1
    have y2 := y 2
    have y3 := y 3
    have y4 := y 4
    have n1 : ¬ V = X := by have := ((HB7.out).drewN m9).hV; have := ((HB7.out).drewN m9).hX; omega
    have n2 : ¬ w.heap.size = X := by have := ((HB7.out).drewN m9).hX; omega
    have n3 : ¬ V = w.heap.size := by have := ((HB7.out).drewN m9).hV; omega
    have n4 : ¬ X = V := fun e => n1 e.symm
    have n5 : ¬ X = w.heap.size := fun e => n2 e.symm
    have n6 : ¬ w.heap.size = V := fun e => n3 e.symm
    clear y
    go_wp2_with fail
    refine bodyPost_ret (ret_one rfl (((HB7.out).drewN m9).on (Kept.setCell (D := fun k => k = X) (Kept.refl _ _) (.inl rfl) _) |>.fin _ _ _ _ _).1 rfl) rfl ?_
    rw [close_yes]
    exact (HB7.out.drewN m9).end_ok (HL9.out.1.drewN m9) HL9.out.2 rfl HT.out.1 rfl (WordN.nil _ _)
  · have h125' : next r' ≠ 125 := fun e => h125 ((fbn_iff hp7.good (by decide)).2 e)
    obtain ⟨b, hb⟩ : ∃ b, fbn r' = b := ⟨_, rfl⟩
    rw [hb] at HAT7 h125
    have y125 : ((b : Int) == 125) = false := rne h125
    have HM2 := Lib.hid (close_no (p := ⟨2, enc l, [35], [], false⟩) h125')
    have HL9 := Lib.hid hl7
    clear hl7 hp7 h125 h125' hb
    obtain ⟨d0, d1, d2, d3, d4⟩ := five_cells (HB7.out).var
    refine (HAT7.out 0).mono ?_
    rintro e w9 ⟨rfl, m9, rfl⟩
    go_wp2_with fail
    refine (rfail_no (HL9.out.drewN m9) 2).mono ?_
    rintro e w10 ⟨rfl, hl10, hk10⟩
    have HB10 := Lib.hid (((HB7.out).drewN m9).on hk10)
    have HL10 := Lib.hid (show LexErr w10 X s 2 from ⟨.inl rfl, _, hl10⟩)
    have c1 := hl10.c1
    have g1 := hl10.fz 1
    clear hl10 hk10
    (try clear d0 d1 d2 d3 d4)
    obtain ⟨d0, d1, d2, d3, d4⟩ := five_cells (HB10.out).var
    obtain ⟨x0, x1, x2, x3, x4⟩ := five_cells (HB10.out).res
    have y := five_free (HB10.out).res
    have y0 := y 0
    have y1 := y 1
    have y2 := y 2
    have y3 := y 3
    have y4 := y 4
    have n1 : ¬ V = X := by have := (HB10.out).hV; have := (HB10.out).hX; omega
    have n2 : ¬ w.heap.size = X := by have := (HB10.out).hX; omega
    have n3 : ¬ V = w.heap.size := by have := (HB10.out).hV; omega
    have n4 : ¬ X = V := fun e => n1 e.symm
    have n5 : ¬ X = w.heap.size := fun e => n2 e.symm
    have n6 : ¬ w.heap.size = V := fun e => n3 e.symm
    clear y
    go_wp2_with fail
    refine bodyPost_ret (ret_one rfl (HB10.out.on (Kept.setCell (D := fun k => k = X) (Kept.refl _ _) (.inl rfl) _) |>.fin _ _ _ _ _).1 rfl) rfl ?_
    rw [HM2.out]
    exact HB10.out.end_err HL10.out _
end Go.Proofs.YtloaalapkmbgeaaDoor

namespace Go.Proofs.YtloaalapkmbgeaaDoor
open Go Go.RowKit GlyphMath LexMath

/-- All that may stand in braces. -/
theorem rbrace_any {depth : Nat} {f : List Nat → Res (List Pt)} (hP : RPartsDo true (depth + 1) f) (hd : depth < 20) : RBraceDo depth (bracesM false f) := by
  intro w X s xs h hs q
  by_cases hh : next xs = 35 ∧ firstR (next xs.tail : Int) = true
  · obtain ⟨h1, h2⟩ := hh
    cases xs with
    | nil => exact absurd h1 (by decide)
    | cons c r =>
      obtain rfl : c = 35 := h1
      cases hn : nameM r with
      | error cc => exact rbrace_herr hd h hs q h2 hn
      | ok a => obtain ⟨l, r'⟩ := a; exact rbrace_hok hd h hs q h2 hn
  · have hcond : next xs = 35 → firstR (next xs.tail : Int) = false := fun e => by
      cases e2 : firstR (next xs.tail : Int) with
      | false => rfl
      | true => exact absurd ⟨e, e2⟩ hh
    by_cases hfo : firstR (next xs : Int) = true ∨ other (next xs) = true
    · cases hpm : parameterM xs with
      | error cc => exact rbrace_perr hd h hs q hcond hfo hpm
      | ok a =>
        obtain ⟨l, r⟩ := a
        by_cases h125 : next r = 125
        · cases r with
          | nil => exact absurd h125 (by decide)
          | cons c z =>
            obtain rfl : c = 125 := h125
            exact rbrace_shut hd h hs q hcond hfo hpm
        · by_cases h58 : next r = 58
          · cases r with
            | nil => exact absurd h58 (by decide)
            | cons c r =>
              obtain rfl : c = 58 := h58
              by_cases hk : next r = 45 ∨ next r = 43 ∨ (next r = 61 ∧ nameL l = true)
              · cases r with
                | nil => rcases hk with e | e | ⟨e, -⟩ <;> exact absurd e (by decide)
                | cons k r => exact rbrace_good hP hd h hs q hcond hfo hpm hk
              · refine rbrace_bad hd h hs q hcond hfo hpm (fun e => hk (.inl e)) (fun e => hk (.inr (.inl e))) ?_
                by_cases e : next r = 61
                · right
                  cases hn : nameL l with
                  | false => rfl
                  | true => exact absurd (.inr (.inr ⟨e, hn⟩)) hk
                · exact .inl e
          · refine rbrace_odd hd h hs q hcond hfo hpm ?_ h125 h58
            rintro ⟨rfl, hf⟩
            have hx : other (next xs) = true ∧ next xs = 35 ∧ r = xs.tail := by
              unfold parameterM at hpm
              cases ho : other (next xs) with
              | true =>
                rw [ho, if_pos rfl] at hpm
                have e := Except.ok.inj hpm
                have e1 : [next xs] = [35] := congrArg Prod.fst e
                have e2 : xs.tail = r := congrArg Prod.snd e
                exact ⟨rfl, by simpa using e1, e2.symm⟩
              | false =>
                rw [ho, if_neg (by decide)] at hpm
                split at hpm
                · rename_i hn
                  have e := (Except.ok.inj hpm)
                  have e1 : got (fun r => !moreR (r : Int)) xs = [35] := congrArg Prod.fst e
                  rw [e1] at hn
                  exact absurd hn (by decide)
                · cases hpm
            obtain ⟨-, h1, rfl⟩ := hx
            exact absurd ⟨h1, hf⟩ hh
    · have h1 : firstR (next xs : Int) = false := by
        cases e : firstR (next xs : Int) with
        | false => rfl
        | true => exact absurd (.inl e) hfo
      have h2 : other (next xs) = false := by
        cases e : other (next xs) with
        | false => rfl
        | true => exact absurd (.inr e) hfo
      exact rbrace_none hd h hs q hcond h1 h2

/-- Parts, within so many braces as there may still begin others. -/
theorem rparts_do : ∀ d, d ≤ 20 → RPartsDo (decide (0 < 20 - d)) (20 - d) (partsM d)
  | 0, _ => by
    have h := rparts_any (d := true) (depth := 20) (br := bracesM true fun _ => .error 0) (braces_ok (f := fun _ => .error 0) (fun _ _ _ h => by cases h) true) (rdollar_do (rbrace_lim (Nat.le_refl _) _))
    exact h
  | d + 1, hd => by
    have ih := rparts_do d (by omega)
    have hP : RPartsDo true (19 - d + 1) (partsM d) := by
      rw [show 19 - d + 1 = 20 - d by omega]
      rwa [decide_eq_true (show 0 < 20 - d by omega)] at ih
    have h := rparts_any (d := decide (d < 19)) (depth := 19 - d) (br := bracesM false (partsM d)) (braces_ok (parts_ok d) false) (rdollar_do (rbrace_any hP (by omega)))
    rw [show 20 - (d + 1) = 19 - d by omega]
    have e : (decide (0 < 19 - d)) = decide (d < 19) := by
      by_cases hc : d < 19
      · rw [decide_eq_true hc, decide_eq_true (by omega)]
      · rw [decide_eq_false hc, decide_eq_false (by omega)]
    rw [e]
    exact h
theorem rparts_all {w : World} {X : Nat} {s : ByteArray} {xs : List Nat} (h : LexAt w X s xs) (hs : s.size ≤ 2000) :
    Calls Tryd.prog 22 #[.pointer (some ⟨X, 0, none⟩), .bool false, .int .i64 0] w fun e w' => PtsEnd w w' e X s (partsM 20 xs) := rparts_do 20 (Nat.le_refl _) w X s xs h hs
end Go.Proofs.YtloaalapkmbgeaaDoor

namespace Go.Proofs.YtloaalapkmbgeaaDoor
open Go Go.RowKit GlyphMath LexMath

theorem eb_low {c : Nat} (h : c < 128) : eb c = [UInt8.ofNat c] := by unfold eb; rw [if_pos h]
/-- An ASCII text stands at the beginning just if its letters do. -/
theorem enc_takes : ∀ {p xs : List Nat}, (∀ c ∈ p, c < 128) → (∀ x ∈ xs, GoodL x) → ((enc xs).take (enc p).length = enc p ↔ (takes p xs).isSome = true)
  | [], xs, _, _ => by simp [enc, takes]
  | c :: p, [], hp, _ => by
    have h1 := eb_length c
    simp only [enc, takes, Option.isSome_none, Bool.false_eq_true, iff_false]
    intro e
    have := congrArg List.length e
    simp at this
    omega
  | c :: p, x :: r, hp, hg => by
    have hc := hp c (by simp)
    have ih := enc_takes (p := p) (xs := r) (fun d hd => hp d (by simp [hd])) (fun d hd => hg d (by simp [hd]))
    rw [enc, enc, eb_low hc, takes]
    by_cases e : c = x
    · subst e
      rw [if_pos rfl, eb_low hc, ← ih]
      simp
    · rw [if_neg e, eb_split x]
      simp only [List.cons_append, List.nil_append, List.length_cons, List.take_succ_cons, List.cons.injEq, Option.isSome_none, Bool.false_eq_true, iff_false]
      intro h
      obtain ⟨h1, h2, h3, h4⟩ := fb_facts (hg x (by simp))
      have := congrArg UInt8.toNat h.1
      rw [byte_of _ h2, byte_of _ (by omega)] at this
      by_cases hx : x < 128
      · rw [(h3 hx).1] at this; omega
      · have := h4 (by omega); omega

/-- A sign as a text. -/
def sgT (p : List Nat) : ByteArray := ⟨(enc p).toArray⟩
theorem sgT_size (p : List Nat) : (sgT p).size = (enc p).length := bytes_size _
theorem sgT_list (p : List Nat) : (sgT p).toList = enc p := ByteArray.toList_mk _
/-- What is asked of a text at a place. -/
theorem pos_sign {s : ByteArray} {i : Nat} {xs p : List Nat} (h : Pos s i xs) (hp : ∀ c ∈ p, c < 128) :
    ((takes p xs).isSome = true → i + (sgT p).size ≤ s.size ∧ ((s.extract i (i + (sgT p).size)).toList == (sgT p).toList) = true) ∧
    ((takes p xs).isSome = false → s.size < i + (sgT p).size ∨ (i + (sgT p).size ≤ s.size ∧ ((s.extract i (i + (sgT p).size)).toList == (sgT p).toList) = false)) := by
  have hl := h.len
  have hx : (s.extract i (i + (sgT p).size)).toList = (enc xs).take (enc p).length := by
    rw [extract_list, h.rest, sgT_size, Nat.add_sub_cancel_left]
    exact ByteArray.toList_mk _
  have hi := enc_takes hp h.good
  rw [hx, sgT_list, sgT_size]
  constructor
  · intro hs
    have e := hi.2 hs
    refine ⟨?_, by rw [e]; simp⟩
    have := congrArg List.length e
    rw [List.length_take] at this
    omega
  · intro hs
    by_cases hlen : i + (enc p).length ≤ s.size
    · right
      refine ⟨hlen, ?_⟩
      cases hb : ((enc xs).take (enc p).length == enc p) with
      | false => rfl
      | true => rw [hi.1 (by simpa using hb)] at hs; cases hs
    · left; omega

def signVals : List Value := signs.map fun p => .string (sgT p)
theorem sign_vals : signVals = [.string ⟨#[38, 38]⟩, .string ⟨#[124, 124]⟩, .string ⟨#[59, 59]⟩, .string ⟨#[62, 62]⟩, .string ⟨#[59]⟩, .string ⟨#[124]⟩, .string ⟨#[40]⟩, .string ⟨#[41]⟩, .string ⟨#[62]⟩, .string ⟨#[60]⟩, .string ⟨#[10]⟩] := rfl
theorem signs_low : ∀ p ∈ signs, (∀ c ∈ p, c < 128) ∧ (enc p).length ≤ 2 := by decide
theorem signM_drop {k : Nat} {p xs : List Nat} (h : signs[k]? = some p) : signM (signs.drop k) xs = match takes p xs with
    | some ys => some (p, ys)
    | none => signM (signs.drop (k + 1)) xs := by
  obtain ⟨hk, rfl⟩ := List.getElem?_eq_some_iff.1 h
  rw [List.drop_eq_getElem_cons hk]
  rfl

/-- The sign that stands there, as a text; none. -/
def signT (xs : List Nat) : ByteArray := match signM signs xs with
  | some (p, _) => sgT p
  | none => ⟨#[]⟩

set_option maxHeartbeats 2000000 in
set_option maxRecDepth 100000 in
theorem rsign_any {w : World} {X : Nat} {s : ByteArray} {xs : List Nat} (h : LexAt w X s xs) (hs : s.size ≤ 2000) :
    Calls Tryd.prog 21 #[.pointer (some ⟨X, 0, none⟩)] w fun e w' => e = .returned (.string (signT xs)) ∧ Kept (fun _ => False) w w' := by
  obtain ⟨R, hR⟩ : ∃ R, signT xs = R := ⟨_, rfl⟩
  rw [hR]
  obtain ⟨O, hO⟩ : ∃ O, Obj.cells #[.string ⟨#[38, 38]⟩, .string ⟨#[124, 124]⟩, .string ⟨#[59, 59]⟩, .string ⟨#[62, 62]⟩, .string ⟨#[59]⟩, .string ⟨#[124]⟩, .string ⟨#[40]⟩, .string ⟨#[41]⟩, .string ⟨#[62]⟩, .string ⟨#[60]⟩, .string ⟨#[10]⟩] 9 = O := ⟨_, rfl⟩
  have hk0 : Kept (fun _ => False) w (w.alloc O) := (Kept.refl _ w).alloc O
  have HL := Lib.hid (show LexAt (w.alloc O) X s xs from h.kept hk0 fun _ _ h => h)
  have HC := Lib.hid (show ∀ (k : Nat) (p : List Nat), signs[k]? = some p → (w.alloc O).cell? ⟨w.heap.size, k, none⟩ = some (.string (sgT p)) from fun k p hp => by
    have hb : (w.alloc O).heap[w.heap.size]? = some (.cells #[.string ⟨#[38, 38]⟩, .string ⟨#[124, 124]⟩, .string ⟨#[59, 59]⟩, .string ⟨#[62, 62]⟩, .string ⟨#[59]⟩, .string ⟨#[124]⟩, .string ⟨#[40]⟩, .string ⟨#[41]⟩, .string ⟨#[62]⟩, .string ⟨#[60]⟩, .string ⟨#[10]⟩] 9 (0, 0)) := by rw [← hO]; exact heap_alloc_new w _
    rw [cell_plain hb]
    have e : signVals[k]? = some (.string (sgT p)) := by unfold signVals; rw [List.getElem?_map, hp]; rfl
    rw [sign_vals] at e
    simpa using e)
  have HK0 := Lib.hid hk0
  have HS := Lib.hid hs
  have HRR := Lib.hid hR
  obtain ⟨b, hb⟩ : ∃ b, w.heap.size = b := ⟨_, rfl⟩
  rw [hb] at HC
  clear h hs hk0 hR
  go_enter Tryd.func21, Tryd.ntmps21
  go_wp2_with fail
  go_loopw [4] (fun i wr => ∃ (k m : Nat), i = .int .i64 (k : Int) ∧ k ≤ 11 ∧ wr = (w.alloc O).drewN m ∧ signM signs xs = signM (signs.drop k) xs) (fun i _ => 11 - (intOf i).toNat)
  case atStart => exact ⟨0, 0, rfl, by omega, rfl, rfl⟩
  case round =>
    obtain ⟨k, m, rfl, hk, rfl, hsm⟩ := hrel
    have HSM := Lib.hid hsm
    clear hsm
    by_cases hlt : k < 11
    · obtain ⟨p, hp⟩ : ∃ p, signs[k]? = some p := ⟨_, List.getElem?_eq_getElem (show k < signs.length from hlt)⟩
      have hlow := signs_low p (List.mem_of_getElem? hp)
      have hc := HC.out k p hp
      obtain ⟨i, hl, hpos⟩ := HL.out
      have hq := pos_sign hpos hlow.1
      have hz : (sgT p).size ≤ 2 := by rw [sgT_size]; exact hlow.2
      obtain ⟨P, hP⟩ : ∃ P, sgT p = P := ⟨_, rfl⟩
      rw [hP] at hc hq hz
      have HP := Lib.hid hP
      have hple := hpos.le
      have hsz := HS.out
      obtain ⟨wq, hwq⟩ : ∃ wq, (w.alloc O).drewN m = wq := ⟨_, rfl⟩
      have hcq : wq.cell? ⟨b, k, none⟩ = some (.string P) := by rw [← hwq]; exact hc
      have hlq : Lx wq X s (i : Int) 0 := by rw [← hwq]; exact hl.drewN m
      have c0 := hlq.c0
      have c1 := hlq.c1
      rw [hwq]
      have HWQ := Lib.hid hwq
      have e1 : IntKind.i64.wrap ((i : Int) + (P.size : Int)) = (i : Int) + (P.size : Int) := IntWalk.i64_in _ ⟨by omega, by omega⟩
      have hk0 : (k : Int) < 11 := by omega
      have hk1 : (0 : Int) ≤ (k : Int) := by omega
      have HLT := Lib.hid hlt
      have HDR := Lib.hid (signM_drop (xs := xs) hp)
      cases ht : takes p xs with
      | some ys =>
        obtain ⟨q1, q2⟩ := hq.1 (by rw [ht]; rfl)
        have hRP : R = P := by
          rw [← HRR.out, signT, HSM.out, HDR.out, ht]; exact hP
        have h1 : decide ((i : Int) + (P.size : Int) ≤ (s.size : Int)) = true := decide_eq_true (by omega)
        have hsl : ∀ W, (Instr.slice 9 (.string s) (some (.int .i64 (i : Int))) (some (.int .i64 ((i : Int) + (P.size : Int)))) none).run Tryd.prog W = .ok (.string (s.extract i (i + P.size))) W := fun W => by
          rw [run_slice_string W 9 s .i64 .i64 _ _ Tryd.underlying9 (by omega) (by omega) (by omega), show (i : Int).toNat = i by omega, show ((i : Int) + (P.size : Int)).toNat = i + P.size by omega]
        obtain ⟨E, hE⟩ : ∃ E, s.extract i (i + P.size) = E := ⟨_, rfl⟩
        rw [hE] at hsl q2
        have HRP := Lib.hid hRP
        clear hq hz hple hsz hl hpos hp hlow hc hlq hwq hlt hk ht q1 hRP hP hE
        go_wp2_with fail
        go_quiet (fail)
        go_wp2_with fail
        go_ret
        exact ⟨by rw [HRP.out]; rfl, HK0.out.on (by rw [← HWQ.out]; exact ((Kept.refl _ _).drewN _).drewN _)⟩
      | none =>
        have HT := Lib.hid ht
        have hk3 : (k : Int) + 1 ≤ 9223372036854775807 := by omega
        rcases hq.2 (by rw [ht]; rfl) with q1 | ⟨q1, q2⟩
        · have h1 : decide ((i : Int) + (P.size : Int) ≤ (s.size : Int)) = false := decide_eq_false (by omega)
          clear hq hz hple hsz hl hpos hp hlow hc hlq hwq hlt hk ht q1 hP
          go_wp2_with fail
          go_quiet (fail)
          go_wp2_with fail
          exact ⟨⟨k + 1, _, rfl, HLT.out, by rw [← HWQ.out, World.drewN_drewN], by rw [HSM.out, HDR.out, HT.out]⟩, by have := HLT.out; simp [intOf]; omega⟩
        · have h1 : decide ((i : Int) + (P.size : Int) ≤ (s.size : Int)) = true := decide_eq_true (by omega)
          have hsl : ∀ W, (Instr.slice 9 (.string s) (some (.int .i64 (i : Int))) (some (.int .i64 ((i : Int) + (P.size : Int)))) none).run Tryd.prog W = .ok (.string (s.extract i (i + P.size))) W := fun W => by
            rw [run_slice_string W 9 s .i64 .i64 _ _ Tryd.underlying9 (by omega) (by omega) (by omega), show (i : Int).toNat = i by omega, show ((i : Int) + (P.size : Int)).toNat = i + P.size by omega]
          obtain ⟨E, hE⟩ : ∃ E, s.extract i (i + P.size) = E := ⟨_, rfl⟩
          rw [hE] at hsl q2
          clear hq hz hple hsz hl hpos hp hlow hc hlq hwq hlt hk ht q1 hP hE
          go_wp2_with fail
          go_quiet (fail)
          go_wp2_with fail
          exact ⟨⟨k + 1, _, rfl, HLT.out, by rw [← HWQ.out, World.drewN_drewN], by rw [HSM.out, HDR.out, HT.out]⟩, by have := HLT.out; simp [intOf]; omega⟩
    · obtain rfl : k = 11 := by omega
      have HRE := Lib.hid (show R = ⟨#[]⟩ from by rw [← HRR.out, signT, HSM.out]; rfl)
      clear hlt hk
      go_wp2_with fail
      go_ret
      exact ⟨by rw [HRE.out]; rfl, HK0.out.on ((Kept.refl _ _).drewN _)⟩
end Go.Proofs.YtloaalapkmbgeaaDoor

namespace Go.Proofs.YtloaalapkmbgeaaDoor
open Go Go.RowKit GlyphMath LexMath

set_option maxHeartbeats 4000000 in
theorem decN_bytes (n b0 b1 b2 b3 r d : Nat) (he : Lib.decodeN n b0 b1 b2 b3 = (r, d)) (h0 : ¬ (r = 65533 ∧ d = 1)) : eb r = ([b0, b1, b2, b3].take d).map UInt8.ofNat := by
  unfold eb
  unfold Lib.decodeN at he
  split at he
  · obtain ⟨rfl, rfl⟩ := Prod.mk.inj he
    rw [if_pos (by assumption)]
    rfl
  · split at he
    · split at he
      · obtain ⟨rfl, rfl⟩ := Prod.mk.inj he
        rw [if_neg (by omega), if_pos (by omega), show 192 + (b0 % 32 * 64 + b1 % 64) / 64 = b0 by omega, show 128 + (b0 % 32 * 64 + b1 % 64) % 64 = b1 by omega]
        rfl
      · obtain ⟨rfl, rfl⟩ := Prod.mk.inj he
        exact absurd ⟨rfl, rfl⟩ h0
    · split at he
      · split at he
        · obtain ⟨rfl, rfl⟩ := Prod.mk.inj he
          rw [if_neg (by omega), if_neg (by omega), if_pos (by omega), show 224 + (b0 % 16 * 4096 + b1 % 64 * 64 + b2 % 64) / 4096 = b0 by omega, show 128 + (b0 % 16 * 4096 + b1 % 64 * 64 + b2 % 64) / 64 % 64 = b1 by omega, show 128 + (b0 % 16 * 4096 + b1 % 64 * 64 + b2 % 64) % 64 = b2 by omega]
          rfl
        · obtain ⟨rfl, rfl⟩ := Prod.mk.inj he
          exact absurd ⟨rfl, rfl⟩ h0
      · split at he
        · split at he
          · obtain ⟨rfl, rfl⟩ := Prod.mk.inj he
            rw [if_neg (by omega), if_neg (by omega), if_neg (by omega), show 240 + (b0 % 8 * 262144 + b1 % 64 * 4096 + b2 % 64 * 64 + b3 % 64) / 262144 = b0 by omega, show 128 + (b0 % 8 * 262144 + b1 % 64 * 4096 + b2 % 64 * 64 + b3 % 64) / 4096 % 64 = b1 by omega, show 128 + (b0 % 8 * 262144 + b1 % 64 * 4096 + b2 % 64 * 64 + b3 % 64) / 64 % 64 = b2 by omega, show 128 + (b0 % 8 * 262144 + b1 % 64 * 4096 + b2 % 64 * 64 + b3 % 64) % 64 = b3 by omega]
            rfl
          · obtain ⟨rfl, rfl⟩ := Prod.mk.inj he
            exact absurd ⟨rfl, rfl⟩ h0
        · obtain ⟨rfl, rfl⟩ := Prod.mk.inj he
          exact absurd ⟨rfl, rfl⟩ h0
theorem drop_byte (s : ByteArray) (j : Nat) (h : j < s.size) : s.data.toList.drop j = UInt8.ofNat (s.get! j).toNat :: s.data.toList.drop (j + 1) := by
  have h' : j < s.data.toList.length := by rw [Array.length_toList]; exact h
  rw [List.drop_eq_getElem_cons h', UInt8.ofNat_toNat, Array.getElem_toList]
  congr 1
  have h2 : j < s.data.size := h
  show s.data[j] = s.data[j]!
  rw [getElem!_pos s.data j h2]
theorem take_bytes (s : ByteArray) (i : Nat) : ∀ d, d ≤ 4 → i + d ≤ s.size → s.data.toList.drop i = (([(s.get! i).toNat, (s.get! (i + 1)).toNat, (s.get! (i + 2)).toNat, (s.get! (i + 3)).toNat].take d).map UInt8.ofNat) ++ s.data.toList.drop (i + d)
  | 0, _, _ => by simp
  | 1, _, h => by rw [drop_byte s i (by omega)]; rfl
  | 2, _, h => by rw [drop_byte s i (by omega), drop_byte s (i + 1) (by omega)]; rfl
  | 3, _, h => by rw [drop_byte s i (by omega), drop_byte s (i + 1) (by omega), drop_byte s (i + 2) (by omega)]; rfl
  | 4, _, h => by rw [drop_byte s i (by omega), drop_byte s (i + 1) (by omega), drop_byte s (i + 2) (by omega), drop_byte s (i + 3) (by omega)]; rfl
  | _ + 5, h, _ => by omega
theorem rest_bytes (s : ByteArray) : ∀ n i, s.size - i ≤ n → i ≤ s.size → badFrom s i = none → s.data.toList.drop i = enc (rest s i)
  | 0, i, hn, hi, _ => by
    rw [rest_end s i (by omega), List.drop_eq_nil_of_le (by rw [Array.length_toList]; show s.size ≤ i; omega)]
    rfl
  | n + 1, i, hn, hi, hb => by
    by_cases h : i < s.size
    · rw [badFrom_step s i h] at hb
      cases hbd : bad s i with
      | true => rw [hbd] at hb; simp at hb
      | false =>
        rw [hbd] at hb
        have hb' : badFrom s (i + (Utf8.decode s i).2) = none := by simpa using hb
        have g := decN_bytes (s.size - i) (s.get! i).toNat (s.get! (i + 1)).toNat (s.get! (i + 2)).toNat (s.get! (i + 3)).toNat _ _ (by rw [← Lib.decode_at]) (not_bad hbd)
        have w1 := width_pos s i h
        have w2 := width_le s i h
        have w3 : (Utf8.decode s i).2 ≤ 4 := by
          rw [Lib.decode_at]
          exact (decodeN_width _ _ _ _ _ (by omega)).2
        have ih := rest_bytes s n (i + (Utf8.decode s i).2) (by omega) (by omega) hb'
        rw [rest_step s i h, enc, g, ← ih]
        exact take_bytes s i _ w3 w2
    · rw [rest_end s i h, List.drop_eq_nil_of_le (by rw [Array.length_toList]; show s.size ≤ i; omega)]
      rfl
/-- At the beginning of a text stand its letters. -/
theorem pos_begin {s : ByteArray} (h : isText s = true) : Pos s 0 (letters s) := by
  have := rest_bytes s s.size 0 (by omega) (by omega) (text_none h)
  rw [rest_zero] at this
  exact ⟨this, Nat.zero_le _, (text_good h).2⟩
end Go.Proofs.YtloaalapkmbgeaaDoor
