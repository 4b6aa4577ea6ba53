/-
  Proved: texts joined: Proved: what each row of chapter 8's cards takes of its listed variables. Conditions: as the rows say.
  Proved: the given card of the law LexBlanks: for any text and any number the law answers true and changes nothing. Conditions: the row's own (the listed library variables start as the program's text lays them; the card ties them).
-/
import Derived.Test.YtpifbpfmjmcchaaDoorCards
import Derived.Test.YtpifbpfmjmcchaaDoorTie
import Derived.Test.YtpifbpfmjmcchaaDoorGlyphTabs
import Derived.Test.YtpifbpfmjmcchaaDoorGlyphFrame
import Derived.Test.YtpifbpfmjmcchaaDoorLexSign
import Derived.LaidMore
import Derived.Lay
import Derived.Carry
import Derived.Stop.Joined
import Derived.Stop.LaidErr
import Derived.Deep.Fields
import Derived.Deep.Slices
import Derived.Test.YtpifbpfmjmcchaaDoorLexBlanks
namespace Go.Proofs.YtpifbpfmjmcchaaDoor
open Go Go.ChangeShapes Go.WideShapes Go.ChangeAt Go.WideMaps Go.WideElems Go.RowKit GlyphMath LexMath

def signL : List (String × DataW Unit) := [("lazarus/lex.signs", Rows.laid_lazarus_lex_signs)]
def bothL : List (String × DataW Unit) := [("unicode/utf8.acceptRanges", Rows.laid_unicode_utf8_acceptRanges), ("lazarus/lex.signs", Rows.laid_lazarus_lex_signs), ("unicode/utf8.first", Rows.laid_unicode_utf8_first)]
def signBytes : List (List UInt8) := [[38, 38], [124, 124], [59, 59], [62, 62], [59], [124], [40], [41], [62], [60], [10]]
theorem sign_data : (Rows.laid_lazarus_lex_signs : DataW Unit) = .agg (signBytes.map fun b => .lit (.string b)) := by kernel_rfl
theorem sign_named : Tryd.prog.globalNamed "lazarus/lex.signs" = some 0 := by kernel_rfl
theorem sign_type : (Tryd.prog.globals[0]?).map (·.type) = some 86 := by kernel_rfl
theorem sign_cells : Tryd.prog.cellsOf 9 = 1 ∧ Tryd.prog.cellsOf 86 = 11 := ⟨by kernel_rfl, by kernel_rfl⟩
theorem lit_inj {a b : List UInt8} (h : (DataW.lit (.string a) : DataW Unit) = .lit (.string b)) : a = b := by
  cases h
  rfl
set_option maxRecDepth 100000 in
theorem signs_of_reads {w : World} (h : Lib.VarReads Tryd.prog w "lazarus/lex.signs" Rows.laid_lazarus_lex_signs) : Signs w := by
  obtain ⟨g, t, cs, fuel, p, hg, hty, hvar, hd⟩ := h
  obtain rfl := Option.some.inj (sign_named.symm.trans hg)
  obtain rfl := Option.some.inj (sign_type.symm.trans hty)
  rw [sign_data] at hd
  have key : ∀ i, i < 11 → ∃ b, signBytes[i]? = some b ∧ cs.toList[i]? = some (.string ⟨b.toArray⟩) := by
    intro i hi
    obtain ⟨fuel', d, q, hdi, he⟩ := Lib.array_elem Tryd.underlying86 hd i hi
    obtain ⟨s, hcz, hx, -⟩ := DataW.trod_string Tryd.underlying9 he
    rw [List.getElem?_map] at hdi
    obtain ⟨b, hb, hbd⟩ := Option.map_eq_some_iff.1 hdi
    have hd2 : d = .lit (.string s.data.toList) := congrArg Prod.fst hx
    rw [hd2] at hbd
    have e : b = s.data.toList := lit_inj hbd
    refine ⟨b, hb, ?_⟩
    have h2 := congrArg (·[0]?) hcz
    rw [sign_cells.1] at h2
    have h3 : cs.toList[i]? = some (.string s) := by simpa [List.getElem?_take, List.getElem?_drop] using h2
    rw [h3, e]
  intro j v hj
  have hjl : j < 11 := (List.getElem?_eq_some_iff.1 hj).1
  obtain ⟨b, hb, hc⟩ := key j hjl
  have hv := World.var?_cell hg hvar j
  rw [Nat.zero_add, hv, ← Array.getElem?_toList, hc]
  have e : signCells = signBytes.map fun b => .string ⟨b.toArray⟩ := rfl
  rw [e, List.getElem?_map, hb] at hj
  exact hj
theorem signs_of_laidH {W : World} (h : laidMetH Tryd.prog signL W) : Signs W := by
  rw [MakeChecks.laidMetH_plain _ _ _ (by kernel_rfl)] at h
  exact signs_of_reads (Lib.laidMet.reads h (by simp [signL]))
theorem both_of_laidH {W : World} (h : laidMetH Tryd.prog bothL W) : Signs W ∧ Tabs W := by
  rw [MakeChecks.laidMetH_plain _ _ _ (by kernel_rfl)] at h
  refine ⟨signs_of_reads (Lib.laidMet.reads h (by simp [bothL])), ?_⟩
  have h3 := Lib.laidMet.reads h (n := "unicode/utf8.first") (d := Rows.laid_unicode_utf8_first) (by simp [bothL])
  have h4 := Lib.laidMet.reads h (n := "unicode/utf8.acceptRanges") (d := Rows.laid_unicode_utf8_acceptRanges) (by simp [bothL])
  rw [first_is] at h3
  rw [accept_is] at h4
  exact utf8Tabs_of_reads lays260 extra h3 h4
end Go.Proofs.YtpifbpfmjmcchaaDoor

namespace Go.Proofs.YtpifbpfmjmcchaaDoor
open Go Go.ChangeShapes Go.WideShapes Go.ChangeAt Go.WideMaps Go.WideElems Go.RowKit GlyphMath LexMath
open Go.ChangeMaps (open_string shut_string)

set_option maxRecDepth 100000 in
theorem lexBlanks_lifted (os : Os) (started : os.Started) (H : Type) (enc : TypeId × Value → H) :
    ReturnsInHanded {} Tryd.checked os 4 .any (fun w args => (Rows.lexBlanksSpec.pre enc Tryd.prog Tryd.f4 [] false w args ∧ laidMetH Tryd.prog bothL w) ∧ sizedMet enc Tryd.prog Tryd.f4 (OpenSpec.ofChange Rows.lexBlanksSpec) false w args)
      (Rows.lexBlanksSpec.post enc Tryd.prog Tryd.f4 false true false false) := by
  refine returnsInHanded_of_change_and (C := Tryd.checked) (X := fun w _ => laidMetH Tryd.prog bothL w) (fun _ _ _ hh h => h.of_heap hh) own started (by kernel_rfl) Tryd.func4
    (ChangeSpec.witness_shaped (enc := enc) (C := Tryd.checked) (os := os) (X := fun w _ => laidMetH Tryd.prog bothL w) false (World.laidAll Tryd.prog os bothL) #[.string ⟨#[]⟩, .int .i64 0] 8 (World.laidAll_os _ _ _)
      (World.shaped_of_ZipB (by kernel_rfl) (by kernel_rfl)) (by kernel_rfl) (by kernel_rfl) (by kernel_rfl)
      (by rw [MakeChecks.laidMetH_plain _ _ _ (by kernel_rfl)]; exact laidMet_laidAll _ (by kernel_rfl) (by kernel_rfl))) ?_
  intro W base args ds gs before hval0 hW _ _ hL _
  have hval : ∀ (j : Nat) t v, Tryd.f4.params[j]? = some t → args[j]? = some v → Value.okWide Tryd.prog W .any base t v := hval0
  have hW' := hW
  obtain ⟨hS, hT⟩ := both_of_laidH hL
  obtain ⟨p, q, hA0, hV, hbe, hfz, hnd⟩ := hW
  have hA : DataW.TrodAll enc Tryd.prog W 0 (fun _ => true) true Tryd.f4.params.toList args.toList ds p := hA0
  rw [Tryd.params4] at hA hval
  obtain ⟨v0, v1, d0, d1, p0, p1, rfl, rfl, rfl, h0, h1⟩ := trodAll_two hA
  obtain ⟨rfl, rfl⟩ := trodVars_none hV
  have fin : ∀ W' : World, Below W.heap.size W W' → Rows.lexBlanksSpec.post enc Tryd.prog Tryd.f4 false true false false W #[v0, v1] (.bool true) W' := fun W' hb =>
    law_post laidOut (by decide +kernel) (by kernel_rfl) Tryd.underlying4 rfl hW' rfl hb
  obtain ⟨s0, rfl, rfl, rfl, -⟩ := open_string Tryd.underlying9 (hval 0 9 v0 rfl rfl) h0
  obtain ⟨n1, rfl, -, -, -⟩ := open_int Tryd.underlying3 (hval 1 3 v1 rfl rfl) h1
  exact (blanks_law s0 n1 W hS hT).mono fun e W' ⟨he, hb⟩ => ⟨_, he, fin W' hb⟩

theorem lexBlanks_said : Rows.LexBlanksSaid :=
  OpenClaim.holds_of_wide 4 Tryd.f4 rfl rfl rfl rfl rfl rfl rfl ⟨rfl, rfl, rfl, rfl, rfl⟩ rfl rfl rfl rfl rfl (by kernel_rfl) Tryd.func4 (by kernel_rfl)
    (of_decide_eq_true (by kernel_rfl)) (by unfold Func.isWrapper; first | (rw [if_pos (by decide +kernel)]; kernel_rfl) | (rw [if_neg (by decide +kernel)]; exact ⟨rfl, rfl⟩))
    (fun os started H enc _ => lexBlanks_lifted os started H enc)

theorem lexBlanks_plain (f : FuncId) (fn : Func) (hf : Tryd.pinned.checked.prog.funcNamed "lazarus/lazaruslaw8.LexBlanks" = some f) (hfn : Tryd.pinned.checked.prog.funcs[f]? = some fn) :
    false = Tryd.pinned.checked.prog.looks [] ∧ ∀ (j : Nat) t, fn.params[j]? = some t → Tryd.pinned.checked.prog.wantsStandIn t = false := by
  obtain rfl : f = 4 := Option.some.inj ((show Tryd.prog.funcNamed "lazarus/lazaruslaw8.LexBlanks" = some 4 by kernel_rfl).symm.trans hf) |>.symm
  obtain rfl : fn = Tryd.f4 := (Option.some.inj (Tryd.func4.symm.trans hfn)).symm
  refine ⟨by kernel_rfl, fun j t ht => ?_⟩
  rw [Tryd.params4] at ht
  have hm := Array.mem_of_getElem? ht
  simp only [List.mem_toArray, List.mem_cons, List.not_mem_nil, or_false] at hm
  rcases hm with rfl | rfl
  · exact (show Tryd.prog.wantsStandIn 9 = false by kernel_rfl)
  · exact (show Tryd.prog.wantsStandIn 3 = false by kernel_rfl)

/-- THE CARD. -/
theorem lexBlanks_card : Rows.LexBlanksCardSaid :=
  Claim7.holds_tied_plain_at .later [] _ _ _ _ lexBlanks_said (fun _ h => by cases h) (by kernel_rfl) (fun _ h => by cases h) lexBlanks_row_tie rfl ⟨rfl, rfl⟩ (by kernel_rfl) rfl lexBlanks_plain (by kernel_rfl)
end Go.Proofs.YtpifbpfmjmcchaaDoor
