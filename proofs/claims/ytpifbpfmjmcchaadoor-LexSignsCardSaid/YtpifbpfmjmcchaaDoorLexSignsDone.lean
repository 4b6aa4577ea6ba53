/-
  Proved: texts joined: Proved: the walk of the law LexSigns: it answers true and changes nothing that was there. Conditions: the listed variables lie as they should.
  Proved: what each row of chapter 8's cards takes of its listed variables. Conditions: as the rows say.
  Proved: the given card of the law LexSigns: for any two numbers the law answers true and changes nothing. Conditions: the row's own (the listed library variables start as the program's text lays them; the card ties them).
-/
import Derived.Test.YtpifbpfmjmcchaaDoorLexBlanks
import Derived.Deep.RegionHeld
import Derived.Test.YtpifbpfmjmcchaaDoorCards
import Derived.Test.YtpifbpfmjmcchaaDoorTie
import Derived.Test.YtpifbpfmjmcchaaDoorGlyphTabs
import Derived.Test.YtpifbpfmjmcchaaDoorGlyphFrame
import Derived.Test.YtpifbpfmjmcchaaDoorLexSign
import Derived.LaidMore
import Derived.Lay
import Derived.Carry
import Derived.Stop.Joined
import Derived.Stop.LaidErr
import Derived.Deep.Fields
import Derived.Deep.Slices
namespace Go.Proofs.YtpifbpfmjmcchaaDoor
open Go Go.RowKit GlyphMath LexMath

/-- The law's own signs. -/
def lawSigns : List ByteArray := [⟨#[38, 38]⟩, ⟨#[124, 124]⟩, ⟨#[59, 59]⟩, ⟨#[59]⟩, ⟨#[124]⟩, ⟨#[40]⟩, ⟨#[41]⟩, ⟨#[62, 62]⟩, ⟨#[62]⟩, ⟨#[60]⟩, ⟨#[10]⟩]
def lawSign (k : Nat) : ByteArray := lawSigns.getD k ⟨#[]⟩
def bothT (a b : Nat) : ByteArray := lawSign a ++ lawSign b
def partT (a b : Nat) : ByteArray := (lawSign a ++ ⟨#[32]⟩) ++ lawSign b
def bothChk (a b : Nat) : Bool := isText (bothT a b) && decide ((bothT a b).size ≤ 10) && decide ((lawSign a).size ≤ 2) && decide ((lawSign b).size ≤ 2) && match tokensL (bothT a b).size ((letters (bothT a b)).length + 1) (letters (bothT a b)) [] with
  | .ok _ => true
  | .error _ => false
def partChk (a b : Nat) : Bool := isText (partT a b) && decide ((partT a b).size ≤ 10) && match tokensL (partT a b).size ((letters (partT a b)).length + 1) (letters (partT a b)) [] with
  | .ok [t0, t1, _] => decide (t0.kind = 2) && decide (t0.text = (lawSign a).data.toList) && decide (t1.text = (lawSign b).data.toList)
  | _ => false
theorem both_all : ∀ a, a < 11 → ∀ b, b < 11 → bothChk a b = true := by decide +kernel
theorem part_all : ∀ a, a < 11 → ∀ b, b < 11 → partChk a b = true := by decide +kernel
theorem both_says {a b : Nat} (ha : a < 11) (hb : b < 11) : isText (bothT a b) = true ∧ (bothT a b).size ≤ 10 ∧ (lawSign a).size ≤ 2 ∧ (lawSign b).size ≤ 2 ∧ ∃ ts, tokensL (bothT a b).size ((letters (bothT a b)).length + 1) (letters (bothT a b)) [] = .ok ts := by
  have h := both_all a ha b hb
  unfold bothChk at h
  simp only [Bool.and_eq_true, decide_eq_true_eq] at h
  obtain ⟨⟨⟨⟨h1, h2⟩, h3⟩, h4⟩, h5⟩ := h
  refine ⟨h1, h2, h3, h4, ?_⟩
  cases hm : tokensL (bothT a b).size ((letters (bothT a b)).length + 1) (letters (bothT a b)) [] with
  | ok ts => exact ⟨ts, rfl⟩
  | error e => rw [hm] at h5; cases h5
theorem part_says {a b : Nat} (ha : a < 11) (hb : b < 11) : isText (partT a b) = true ∧ (partT a b).size ≤ 10 ∧ ∃ t0 t1 t2, tokensL (partT a b).size ((letters (partT a b)).length + 1) (letters (partT a b)) [] = .ok [t0, t1, t2] ∧ t0.kind = 2 ∧ (⟨t0.text.toArray⟩ : ByteArray) = lawSign a ∧ (⟨t1.text.toArray⟩ : ByteArray) = lawSign b := by
  have h := part_all a ha b hb
  unfold partChk at h
  simp only [Bool.and_eq_true, decide_eq_true_eq] at h
  obtain ⟨⟨h1, h2⟩, h3⟩ := h
  refine ⟨h1, h2, ?_⟩
  have fin : ∀ (l : List UInt8) (x : ByteArray), l = x.data.toList → (⟨l.toArray⟩ : ByteArray) = x := fun l x e => by rw [e]
  split at h3
  · rename_i t0 t1 t2 hm
    simp only [Bool.and_eq_true, decide_eq_true_eq] at h3
    exact ⟨t0, t1, t2, hm, h3.1.1, fin _ _ h3.1.2, fin _ _ h3.2⟩
  · cases h3
def lawObj : Obj := .cells #[.string ⟨#[38, 38]⟩, .string ⟨#[124, 124]⟩, .string ⟨#[59, 59]⟩, .string ⟨#[59]⟩, .string ⟨#[124]⟩, .string ⟨#[40]⟩, .string ⟨#[41]⟩, .string ⟨#[62, 62]⟩, .string ⟨#[62]⟩, .string ⟨#[60]⟩, .string ⟨#[10]⟩] 9
theorem law_cell (w : World) (k : Nat) (hk : k < 11) : (w.alloc lawObj).cell? ⟨w.heap.size, k, none⟩ = some (.string (lawSign k)) := by
  rw [cell_plain (heap_alloc_new w lawObj)]
  have e : ∀ k, k < 11 → (#[Value.string ⟨#[38, 38]⟩, .string ⟨#[124, 124]⟩, .string ⟨#[59, 59]⟩, .string ⟨#[59]⟩, .string ⟨#[124]⟩, .string ⟨#[40]⟩, .string ⟨#[41]⟩, .string ⟨#[62, 62]⟩, .string ⟨#[62]⟩, .string ⟨#[60]⟩, .string ⟨#[10]⟩] : Array Value)[k]? = some (.string (lawSign k)) := by
    intro k hk
    rcases k with _ | _ | _ | _ | _ | _ | _ | _ | _ | _ | _ | k
    all_goals first | rfl | omega
  exact e k hk

set_option maxHeartbeats 4000000 in
set_option maxRecDepth 100000 in
theorem signs_out (a b : Int) (w : World) (h : a < 0 ∨ 11 ≤ a ∨ b < 0 ∨ 11 ≤ b) :
    Calls Tryd.prog 5 #[.int .i64 a, .int .i64 b] w fun e w' => e = .returned (.bool true) ∧ Below w.heap.size w w' := by
  have hb : Below w.heap.size w (w.alloc lawObj) := (Below.refl _ w).alloc (Nat.le_refl _) _
  by_cases h1 : a < 0
  · clear h
    go_enter Tryd.func5, Tryd.ntmps5
    go_wp2_with fail
    go_ret
    exact ⟨rfl, hb⟩
  by_cases h2 : 11 ≤ a
  · clear h
    go_enter Tryd.func5, Tryd.ntmps5
    go_wp2_with fail
    go_ret
    exact ⟨rfl, hb⟩
  by_cases h3 : b < 0
  · clear h
    go_enter Tryd.func5, Tryd.ntmps5
    go_wp2_with fail
    go_ret
    exact ⟨rfl, hb⟩
  have h4 : 11 ≤ b := by omega
  clear h
  go_enter Tryd.func5, Tryd.ntmps5
  go_wp2_with fail
  go_ret
  exact ⟨rfl, hb⟩

set_option maxHeartbeats 8000000 in
set_option maxRecDepth 100000 in
theorem signs_in (a b : Nat) (ha : a < 11) (hb : b < 11) (w : World) (hS : Signs w) (hT : Tabs w) :
    Calls Tryd.prog 5 #[.int .i64 (a : Int), .int .i64 (b : Int)] w fun e w' => e = .returned (.bool true) ∧ Below w.heap.size w w' := by
  obtain ⟨t1, z1, za, zb, ts, hm1⟩ := both_says ha hb
  obtain ⟨t2, z2, x0, x1, x2, hm2, hkd, hx0, hx1⟩ := part_says ha hb
  obtain ⟨W, hW⟩ : ∃ W, w.alloc lawObj = W := ⟨_, rfl⟩
  have hbW : Below w.heap.size w W := by rw [← hW]; exact (Below.refl _ w).alloc (Nat.le_refl _) _
  have ca : W.cell? ⟨w.heap.size, a, none⟩ = some (.string (lawSign a)) := by rw [← hW]; exact law_cell w a ha
  have cb : W.cell? ⟨w.heap.size, b, none⟩ = some (.string (lawSign b)) := by rw [← hW]; exact law_cell w b hb
  have HBW := Lib.hid hbW
  have hSW : Signs W := hS.kept (D := fun _ => False) (Kept.of_below hbW) (fun h => h)
  have hTW : Tabs W := hT.below hbW
  have HTK := Lib.hid (fun n => by
    have := tokens_in (bothT a b) (W.drewN n) (by omega) t1 (hSW.kept (D := fun _ => False) (known_drawn (Kept.refl _ W) n) (fun h => h))
    rw [hm1] at this
    exact this)
  have HRT := Lib.hid (fun (Z : World) (hZ : Tabs Z) => by
    have := rtokens_in (bothT a b) Z (by omega) t1 hZ
    rw [hm1] at this
    exact this)
  have HTP := Lib.hid (fun (Z : World) (hZ : Signs Z) => by
    have := tokens_in (partT a b) Z (by omega) t2 hZ
    rw [hm2] at this
    exact this)
  have HX := Lib.hid (And.intro hkd (And.intro hx0 hx1))
  have HSW := Lib.hid hSW
  have HTW := Lib.hid hTW
  have s1 : ¬ (9223372036854775807 : Int) < ((lawSign a).size : Int) + ((lawSign b).size : Int) := by omega
  have s2 : ¬ (9223372036854775807 : Int) < ((lawSign a).size : Int) + 1 := by omega
  have s3 : ¬ (9223372036854775807 : Int) < ((lawSign a).size : Int) + 1 + ((lawSign b).size : Int) := by omega
  unfold bothT at HTK HRT
  unfold partT at HTP
  obtain ⟨PA, hPA⟩ : ∃ PA, lawSign a = PA := ⟨_, rfl⟩
  obtain ⟨PB, hPB⟩ : ∃ PB, lawSign b = PB := ⟨_, rfl⟩
  rw [hPA] at HTK HRT HTP HX ca s1 s2 s3
  rw [hPB] at HTK HRT HTP HX cb s1 s3
  have h0 : (0 : Int) ≤ (a : Int) := by omega
  have h1 : (a : Int) < 11 := by omega
  have h2 : (0 : Int) ≤ (b : Int) := by omega
  have h3 : (b : Int) < 11 := by omega
  have h4 : ¬ (a : Int) < 0 := by omega
  have h5 : ¬ (b : Int) < 0 := by omega
  have h6 : ¬ (11 : Int) ≤ (a : Int) := by omega
  have h7 : ¬ (11 : Int) ≤ (b : Int) := by omega
  clear t1 z1 za zb hm1 t2 z2 hm2 hkd hx0 hx1 hSW hTW hS hT hPA hPB ha hb hbW
  obtain ⟨lb, hlb⟩ : ∃ lb, w.heap.size = lb := ⟨_, rfl⟩
  rw [hlb] at ca cb
  go_enter Tryd.func5, Tryd.ntmps5
  go_wp2_with fail
  unfold lawObj at hW
  rw [hW]
  clear hW
  go_quiet (fail)
  go_wp2_with fail
  refine (HTK.out _).mono ?_
  rintro e w1 ⟨v1, X1, us1, F1, rfl, hO1, hb1⟩
  have hb1 : Below W.heap.size W w1 := ⟨hb1.os, hb1.tape, hb1.output, hb1.size, hb1.block⟩
  have ca := (hb1.cell (p := ⟨lb, a, none⟩) (World.block_lt_of_cell? W _ ca)).trans ca
  have cb := (hb1.cell (p := ⟨lb, b, none⟩) (World.block_lt_of_cell? W _ cb)).trans cb
  have HB1 := Lib.hid hb1
  have HO1 := Lib.hid hO1
  have hT1 := HTW.out.below hb1
  have HR1 := Lib.hid (HRT.out w1 hT1)
  clear hb1 hO1 hT1
  go_wp2_with fail
  refine HR1.out.mono ?_
  rintro e w2 ⟨v2, X2, us2, F2, rfl, hO2, hb2⟩
  have ca := (hb2.cell (p := ⟨lb, a, none⟩) (World.block_lt_of_cell? w1 _ ca)).trans ca
  have cb := (hb2.cell (p := ⟨lb, b, none⟩) (World.block_lt_of_cell? w1 _ cb)).trans cb
  have HB2 := Lib.hid hb2
  have HO2 := Lib.hid hO2
  have hsg2 : Signs w2 := (HSW.out.kept (D := fun _ => False) (Kept.of_below HB1.out) (fun h => h)).kept (D := fun _ => False) (Kept.of_below hb2) (fun h => h)
  have HTP2 := Lib.hid (fun n => HTP.out (w2.drewN n) (hsg2.kept (D := fun _ => False) (known_drawn (Kept.refl _ w2) n) (fun h => h)))
  have HSG2 := Lib.hid hsg2
  clear hb2 hO2 hsg2
  go_wp2_with fail
  have ta := (show w2.drew.cell? _ = _ from ca)
  have tb := (show w2.drew.cell? _ = _ from cb)
  have s2 : ¬ 9223372036854775807 < PA.size + 1 := by omega
  have s4 : ¬ 9223372036854775807 ≤ PA.size := by omega
  have s3 : ¬ 9223372036854775807 < PA.size + 1 + PB.size := by omega
  go_region_held (fun W => W.cell? ⟨lb, a, none⟩ = some (.string PA) ∧ W.cell? ⟨lb, b, none⟩ = some (.string PB)) (first | exact ⟨ta, tb⟩ | exact ⟨ca, cb⟩ | assumption | exact ⟨S3.out.1, S3.out.2⟩) ((go_at_call 8; refine (HTP2.out 1).mono ?_; rintro e w3 ⟨v3, X3, us3, F3, rfl, hO3, hb3⟩; have hb3 : Below w2.heap.size w2 w3 := ⟨hb3.os, hb3.tape, hb3.output, hb3.size, hb3.block⟩; have S3 := Lib.hid (show w3.cell? ⟨lb, a, none⟩ = some (.string PA) ∧ w3.cell? ⟨lb, b, none⟩ = some (.string PB) from ⟨(hb3.cell (p := ⟨lb, a, none⟩) (World.block_lt_of_cell? w2 _ ca)).trans ca, (hb3.cell (p := ⟨lb, b, none⟩) (World.block_lt_of_cell? w2 _ cb)).trans cb⟩); have HB3 := Lib.hid hb3; have HO3 := Lib.hid hO3; clear hb3 hO3))
  obtain ⟨p3, c3, hv3, hat3⟩ := HO3.out.at
  subst hv3
  obtain ⟨u0, -, -, b3, o3, rfl, a0, a1, -, -⟩ := hat3 0 x0 rfl
  obtain ⟨u1, -, -, b4, o4, hp4, -, d1, -, -⟩ := hat3 1 x1 rfl
  cases hp4
  rw [HX.out.1] at a0
  rw [HX.out.2.1] at a1
  rw [HX.out.2.2] at d1
  simp only [Nat.zero_mul, Nat.add_zero, Nat.one_mul] at a0 a1 d1
  have ca := S3.out.1
  have cb := S3.out.2
  have hb13 : Below w1.heap.size w1 w3 := HB2.out.trans (HB3.out.mono HB2.out.size)
  have HSM := Lib.hid (fun n => rsame_yes (HO1.out.kept (D := fun _ => False) (Kept.of_below hb13) (fun _ _ _ _ h => h)) (HO2.out.kept (D := fun _ => False) (Kept.of_below HB3.out) (fun _ _ _ _ h => h)) n)
  have hsg3 : Signs w3 := HSG2.out.kept (D := fun _ => False) (Kept.of_below HB3.out) (fun h => h)
  have HKN := Lib.hid (fun n => known_any (w3.drewN n) (hsg3.kept (D := fun _ => False) (known_drawn (Kept.refl _ w3) n) (fun h => h)))
  rw [show [x0, x1, x2].length = 3 from rfl]
  have ta := (show w3.drew.cell? _ = _ from ca)
  have tb := (show w3.drew.cell? _ = _ from cb)
  have t0 := (show w3.drew.cell? _ = _ from a0)
  have t1 := (show w3.drew.cell? _ = _ from a1)
  have t2 := (show w3.drew.cell? _ = _ from d1)
  clear hat3 hb13 hsg3
  go_wp2_with fail
  go_region_held (fun W => W.cell? ⟨lb, a, none⟩ = some (.string PA) ∧ W.cell? ⟨lb, b, none⟩ = some (.string PB) ∧ W.cell? ⟨b3, o3, none⟩ = some (.int .i64 2) ∧ W.cell? ⟨b3, o3 + 1, none⟩ = some (.string PA) ∧ W.cell? ⟨b3, o3 + 4 + 1, none⟩ = some (.string PB)) (first | exact ⟨ta, tb, t0, t1, t2⟩ | exact ⟨ca, cb, a0, a1, d1⟩ | assumption | exact S4.out) ((first
    | (go_at_call 12; refine (HSM.out 1).mono ?_; rintro e w4 ⟨rfl, m, rfl⟩)
    | (go_at_call 10; refine (HKN.out _).mono ?_; rintro e w5 ⟨rfl, hb5⟩; have S4 := Lib.hid (show w5.cell? ⟨lb, a, none⟩ = some (.string PA) ∧ w5.cell? ⟨lb, b, none⟩ = some (.string PB) ∧ w5.cell? ⟨b3, o3, none⟩ = some (.int .i64 2) ∧ w5.cell? ⟨b3, o3 + 1, none⟩ = some (.string PA) ∧ w5.cell? ⟨b3, o3 + 4 + 1, none⟩ = some (.string PB) from ⟨(hb5.cell (p := ⟨lb, a, none⟩) (World.block_lt_of_cell? w3 _ ca)).trans ca, (hb5.cell (p := ⟨lb, b, none⟩) (World.block_lt_of_cell? w3 _ cb)).trans cb, (hb5.cell (p := ⟨b3, o3, none⟩) (World.block_lt_of_cell? w3 _ a0)).trans a0, (hb5.cell (p := ⟨b3, o3 + 1, none⟩) (World.block_lt_of_cell? w3 _ a1)).trans a1, (hb5.cell (p := ⟨b3, o3 + 4 + 1, none⟩) (World.block_lt_of_cell? w3 _ d1)).trans d1⟩); have HB5 := Lib.hid hb5; clear hb5)))
  go_wp2_with fail
  go_ret
  refine ⟨rfl, ?_⟩
  have hb5 : Below w3.heap.size w3 w5 := (show Below w3.heap.size w3 (w3.drewN (1 + m)) from ⟨rfl, rfl, rfl, Nat.le_refl _, fun _ _ => rfl⟩).trans HB5.out
  have h2 : Below W.heap.size W w2 := HB1.out.trans (HB2.out.mono HB1.out.size)
  have h3 : Below W.heap.size W w3 := h2.trans (HB3.out.mono h2.size)
  have h5 : Below W.heap.size W w5 := h3.trans (hb5.mono h3.size)
  exact HBW.out.trans (h5.mono HBW.out.size)

theorem signs_law (a b : Int) (w : World) (hS : Signs w) (hT : Tabs w) :
    Calls Tryd.prog 5 #[.int .i64 a, .int .i64 b] w fun e w' => e = .returned (.bool true) ∧ Below w.heap.size w w' := by
  by_cases h : a < 0 ∨ 11 ≤ a ∨ b < 0 ∨ 11 ≤ b
  · exact signs_out a b w h
  · obtain ⟨x, rfl⟩ : ∃ x : Nat, a = (x : Int) := ⟨a.toNat, by omega⟩
    obtain ⟨y, rfl⟩ : ∃ y : Nat, b = (y : Int) := ⟨b.toNat, by omega⟩
    exact signs_in x y (by omega) (by omega) w hS hT
end Go.Proofs.YtpifbpfmjmcchaaDoor

namespace Go.Proofs.YtpifbpfmjmcchaaDoor
open Go Go.ChangeShapes Go.WideShapes Go.ChangeAt Go.WideMaps Go.WideElems Go.RowKit GlyphMath LexMath

def signL : List (String × DataW Unit) := [("lazarus/lex.signs", Rows.laid_lazarus_lex_signs)]
def bothL : List (String × DataW Unit) := [("unicode/utf8.acceptRanges", Rows.laid_unicode_utf8_acceptRanges), ("lazarus/lex.signs", Rows.laid_lazarus_lex_signs), ("unicode/utf8.first", Rows.laid_unicode_utf8_first)]
def signBytes : List (List UInt8) := [[38, 38], [124, 124], [59, 59], [62, 62], [59], [124], [40], [41], [62], [60], [10]]
theorem sign_data : (Rows.laid_lazarus_lex_signs : DataW Unit) = .agg (signBytes.map fun b => .lit (.string b)) := by kernel_rfl
theorem sign_named : Tryd.prog.globalNamed "lazarus/lex.signs" = some 0 := by kernel_rfl
theorem sign_type : (Tryd.prog.globals[0]?).map (·.type) = some 86 := by kernel_rfl
theorem sign_cells : Tryd.prog.cellsOf 9 = 1 ∧ Tryd.prog.cellsOf 86 = 11 := ⟨by kernel_rfl, by kernel_rfl⟩
theorem lit_inj {a b : List UInt8} (h : (DataW.lit (.string a) : DataW Unit) = .lit (.string b)) : a = b := by
  cases h
  rfl
set_option maxRecDepth 100000 in
theorem signs_of_reads {w : World} (h : Lib.VarReads Tryd.prog w "lazarus/lex.signs" Rows.laid_lazarus_lex_signs) : Signs w := by
  obtain ⟨g, t, cs, fuel, p, hg, hty, hvar, hd⟩ := h
  obtain rfl := Option.some.inj (sign_named.symm.trans hg)
  obtain rfl := Option.some.inj (sign_type.symm.trans hty)
  rw [sign_data] at hd
  have key : ∀ i, i < 11 → ∃ b, signBytes[i]? = some b ∧ cs.toList[i]? = some (.string ⟨b.toArray⟩) := by
    intro i hi
    obtain ⟨fuel', d, q, hdi, he⟩ := Lib.array_elem Tryd.underlying86 hd i hi
    obtain ⟨s, hcz, hx, -⟩ := DataW.trod_string Tryd.underlying9 he
    rw [List.getElem?_map] at hdi
    obtain ⟨b, hb, hbd⟩ := Option.map_eq_some_iff.1 hdi
    have hd2 : d = .lit (.string s.data.toList) := congrArg Prod.fst hx
    rw [hd2] at hbd
    have e : b = s.data.toList := lit_inj hbd
    refine ⟨b, hb, ?_⟩
    have h2 := congrArg (·[0]?) hcz
    rw [sign_cells.1] at h2
    have h3 : cs.toList[i]? = some (.string s) := by simpa [List.getElem?_take, List.getElem?_drop] using h2
    rw [h3, e]
  intro j v hj
  have hjl : j < 11 := (List.getElem?_eq_some_iff.1 hj).1
  obtain ⟨b, hb, hc⟩ := key j hjl
  have hv := World.var?_cell hg hvar j
  rw [Nat.zero_add, hv, ← Array.getElem?_toList, hc]
  have e : signCells = signBytes.map fun b => .string ⟨b.toArray⟩ := rfl
  rw [e, List.getElem?_map, hb] at hj
  exact hj
theorem signs_of_laidH {W : World} (h : laidMetH Tryd.prog signL W) : Signs W := by
  rw [MakeChecks.laidMetH_plain _ _ _ (by kernel_rfl)] at h
  exact signs_of_reads (Lib.laidMet.reads h (by simp [signL]))
theorem both_of_laidH {W : World} (h : laidMetH Tryd.prog bothL W) : Signs W ∧ Tabs W := by
  rw [MakeChecks.laidMetH_plain _ _ _ (by kernel_rfl)] at h
  refine ⟨signs_of_reads (Lib.laidMet.reads h (by simp [bothL])), ?_⟩
  have h3 := Lib.laidMet.reads h (n := "unicode/utf8.first") (d := Rows.laid_unicode_utf8_first) (by simp [bothL])
  have h4 := Lib.laidMet.reads h (n := "unicode/utf8.acceptRanges") (d := Rows.laid_unicode_utf8_acceptRanges) (by simp [bothL])
  rw [first_is] at h3
  rw [accept_is] at h4
  exact utf8Tabs_of_reads lays260 extra h3 h4
end Go.Proofs.YtpifbpfmjmcchaaDoor

namespace Go.Proofs.YtpifbpfmjmcchaaDoor
open Go Go.ChangeShapes Go.WideShapes Go.ChangeAt Go.WideMaps Go.WideElems Go.RowKit GlyphMath LexMath
open Go.ChangeMaps (open_string shut_string)

set_option maxRecDepth 100000 in
theorem lexSigns_lifted (os : Os) (started : os.Started) (H : Type) (enc : TypeId × Value → H) :
    ReturnsInHanded {} Tryd.checked os 5 .any (fun w args => (Rows.lexSignsSpec.pre enc Tryd.prog Tryd.f5 [] false w args ∧ laidMetH Tryd.prog bothL w) ∧ sizedMet enc Tryd.prog Tryd.f5 (OpenSpec.ofChange Rows.lexSignsSpec) false w args)
      (Rows.lexSignsSpec.post enc Tryd.prog Tryd.f5 false true false false) := by
  refine returnsInHanded_of_change_and (C := Tryd.checked) (X := fun w _ => laidMetH Tryd.prog bothL w) (fun _ _ _ hh h => h.of_heap hh) own started (by kernel_rfl) Tryd.func5
    (ChangeSpec.witness_shaped (enc := enc) (C := Tryd.checked) (os := os) (X := fun w _ => laidMetH Tryd.prog bothL w) false (World.laidAll Tryd.prog os bothL) #[.int .i64 0, .int .i64 0] 8 (World.laidAll_os _ _ _)
      (World.shaped_of_ZipB (by kernel_rfl) (by kernel_rfl)) (by kernel_rfl) (by kernel_rfl) (by kernel_rfl)
      (by rw [MakeChecks.laidMetH_plain _ _ _ (by kernel_rfl)]; exact laidMet_laidAll _ (by kernel_rfl) (by kernel_rfl))) ?_
  intro W base args ds gs before hval0 hW _ _ hL _
  have hval : ∀ (j : Nat) t v, Tryd.f5.params[j]? = some t → args[j]? = some v → Value.okWide Tryd.prog W .any base t v := hval0
  have hW' := hW
  obtain ⟨hS, hT⟩ := both_of_laidH hL
  obtain ⟨p, q, hA0, hV, hbe, hfz, hnd⟩ := hW
  have hA : DataW.TrodAll enc Tryd.prog W 0 (fun _ => true) true Tryd.f5.params.toList args.toList ds p := hA0
  rw [Tryd.params5] at hA hval
  obtain ⟨v0, v1, d0, d1, p0, p1, rfl, rfl, rfl, h0, h1⟩ := trodAll_two hA
  obtain ⟨rfl, rfl⟩ := trodVars_none hV
  have fin : ∀ W' : World, Below W.heap.size W W' → Rows.lexSignsSpec.post enc Tryd.prog Tryd.f5 false true false false W #[v0, v1] (.bool true) W' := fun W' hb =>
    law_post laidOut (by decide +kernel) (by kernel_rfl) Tryd.underlying4 rfl hW' rfl hb
  obtain ⟨n0, rfl, -, -, -⟩ := open_int Tryd.underlying3 (hval 0 3 v0 rfl rfl) h0
  obtain ⟨n1, rfl, -, -, -⟩ := open_int Tryd.underlying3 (hval 1 3 v1 rfl rfl) h1
  exact (signs_law n0 n1 W hS hT).mono fun e W' ⟨he, hb⟩ => ⟨_, he, fin W' hb⟩

theorem lexSigns_said : Rows.LexSignsSaid :=
  OpenClaim.holds_of_wide 5 Tryd.f5 rfl rfl rfl rfl rfl rfl rfl ⟨rfl, rfl, rfl, rfl, rfl⟩ rfl rfl rfl rfl rfl (by kernel_rfl) Tryd.func5 (by kernel_rfl)
    (of_decide_eq_true (by kernel_rfl)) (by unfold Func.isWrapper; first | (rw [if_pos (by decide +kernel)]; kernel_rfl) | (rw [if_neg (by decide +kernel)]; exact ⟨rfl, rfl⟩))
    (fun os started H enc _ => lexSigns_lifted os started H enc)

theorem lexSigns_plain (f : FuncId) (fn : Func) (hf : Tryd.pinned.checked.prog.funcNamed "lazarus/lazaruslaw8.LexSigns" = some f) (hfn : Tryd.pinned.checked.prog.funcs[f]? = some fn) :
    false = Tryd.pinned.checked.prog.looks [] ∧ ∀ (j : Nat) t, fn.params[j]? = some t → Tryd.pinned.checked.prog.wantsStandIn t = false := by
  obtain rfl : f = 5 := Option.some.inj ((show Tryd.prog.funcNamed "lazarus/lazaruslaw8.LexSigns" = some 5 by kernel_rfl).symm.trans hf) |>.symm
  obtain rfl : fn = Tryd.f5 := (Option.some.inj (Tryd.func5.symm.trans hfn)).symm
  refine ⟨by kernel_rfl, fun j t ht => ?_⟩
  rw [Tryd.params5] at ht
  have hm := Array.mem_of_getElem? ht
  simp only [List.mem_toArray, List.mem_cons, List.not_mem_nil, or_false] at hm
  rcases hm with rfl | rfl
  · exact (show Tryd.prog.wantsStandIn 3 = false by kernel_rfl)
  · exact (show Tryd.prog.wantsStandIn 3 = false by kernel_rfl)

/-- THE CARD. -/
theorem lexSigns_card : Rows.LexSignsCardSaid :=
  Claim7.holds_tied_plain_at .later [] _ _ _ _ lexSigns_said (fun _ h => by cases h) (by kernel_rfl) (fun _ h => by cases h) lexSigns_row_tie rfl ⟨rfl, rfl⟩ (by kernel_rfl) rfl lexSigns_plain (by kernel_rfl)
end Go.Proofs.YtpifbpfmjmcchaaDoor
