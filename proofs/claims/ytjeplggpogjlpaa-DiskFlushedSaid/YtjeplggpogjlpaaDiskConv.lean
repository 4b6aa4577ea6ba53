/-
  Proved: what the laws of chapter 3 that hold texts against one another share: bytes as a text, a byte written, a disk made beside a row. No conditions but those that each says.
-/
import Derived.Test.YtjeplggpogjlpaaDiskLaw
import Derived.Laws.BitsAllLaws
namespace Go.Proofs.Ytjeplggpogjlpaa
open Go Go.RowKit DiskMath NetMem

/-- Bytes as numbers. -/
def numsB (l : List UInt8) : List Int := l.map fun b => (b.toNat : Int)
theorem numsB_length (l : List UInt8) : (numsB l).length = l.length := by simp [numsB]
theorem numsL_getD (l : List UInt8) (i : Nat) (h : i < l.length) : (numsB l).getD i 0 = (l[i].toNat : Int) := by
  simp [numsB, List.getD, h]
theorem str_nums (l : List UInt8) : strOfNums (numsB l) = ⟨l.toArray⟩ := by
  unfold strOfNums numsB
  congr 1
  rw [List.map_map]
  congr 1
  conv => rhs; rw [← List.map_id l]
  apply List.map_congr_left
  intro x _
  simp

/-- A row of bytes as a text. -/
theorem conv_row {w : World} {b o n cap : Nat} {l : List UInt8} (h : Row w (.slice (some ⟨b, o, none⟩) n cap) l) :
    (convert 22 9 (.slice (some ⟨b, o, none⟩) n cap)).run Try.prog w = .ok (.string ⟨l.toArray⟩) w := by
  obtain ⟨rfl, hlc, -, -⟩ := Row.nums h
  have := run_convert_bytes_arg (P := Try.prog) w 22 5 Try.underlying22 Try.underlying5 b o l.length cap (numsB l) (numsB_length l) (fun i hi => by rw [numsL_getD l i hi]; exact Row.range h (by omega) i hi) 9 Try.underlying9
  rwa [str_nums] at this

theorem below_drew (B : Nat) (w : World) : Below B w w.drew := ⟨rfl, rfl, rfl, Nat.le_refl _, fun _ _ => rfl⟩

/-- A row of sixteen bytes. -/
theorem own_sixteen {w : World} {B : Nat} {v : Value} {l : List UInt8} (h : Own w B v l) (hl : l.length = 16) : ∃ q cap, v = .slice (some ⟨q, 0, none⟩) 16 cap ∧ 16 ≤ cap ∧ cap ≤ 9223372036854775807 ∧ w.cell? ⟨q, 0, none⟩ = some (.int .u8 ((l.getD 0 0).toNat : Int)) ∧ w.frozen? ⟨q, 0, none⟩ = false := by
  have h' := h
  obtain ⟨q, cap, rfl, h1, h2, hc⟩ := own_some h (by omega)
  refine ⟨q, cap, by rw [hl], by omega, h2, ?_, ?_⟩
  · rw [hc 0 (by omega), List.getD_eq_getElem?_getD, List.getElem?_eq_getElem (by omega), Option.getD_some]
  · rcases h' with ⟨hv, -⟩ | ⟨g, cap', hv, -, -, h3, -, h4, -⟩
    · simp at hv
    · simp only [Value.slice.injEq, Option.some.injEq, Addr.mk.injEq] at hv
      obtain ⟨⟨rfl, -, -⟩, -, rfl⟩ := hv
      exact (h4 0 (by omega)).2

/-- A disk that is made beside a row. -/
theorem new_st_beside (n : Nat) (hn : n ≤ 4000) (z : Int) (hz : z = (n : Int)) {w w1 : World} (hb : Below w.heap.size w w1) {v : Value} {l : List UInt8} (ho : Own w1 w.heap.size v l) :
    Calls Try.prog 8 #[.int .i64 z] w1 fun e w' => ∃ g, e = .returned (.pointer (some ⟨g, 0, none⟩)) ∧ St w w' (.pointer (some ⟨g, 0, none⟩)) (Dk.new n) [(v, l)] := by
  subst hz
  exact (new_at n hn w1).mono fun e w' ⟨g, D, he, hd, hD, hb'⟩ => ⟨g, he, D, hd, hb.trans (hb'.mono hb.size), fun k hk => Nat.le_trans hb.size (hD k hk), fun r hr => by
    obtain rfl : r = (v, l) := by simpa using hr
    exact ⟨ho.below hb', fun k hk hd' => by have := hD k hd'; have := (ho.lt k hk).2; omega⟩⟩

/-- A byte of a row is written. -/
theorem St.store {w0 W : World} {p : Value} {d : Dk} {q n cap : Nat} {l : List UInt8} (h : St w0 W p d [(.slice (some ⟨q, 0, none⟩) n cap, l)]) (k : Nat) (hk : k < l.length) (y : UInt8) :
    St w0 (W.setCell ⟨q, k, none⟩ (.int .u8 (y.toNat : Int))) p d [(.slice (some ⟨q, 0, none⟩) n cap, l.set k y)] := by
  obtain ⟨D, hd, hb, hD, hr⟩ := h
  obtain ⟨ho, hn⟩ := hr _ List.mem_cons_self
  have hq := ho.lt q rfl
  have hK : Kept (fun j => j = q) W (W.setCell ⟨q, k, none⟩ (.int .u8 (y.toNat : Int))) := (Kept.refl (fun j => j = q) W).setCell (p := ⟨q, k, none⟩) (.inl rfl) _
  refine ⟨D, hd.far hK (fun j hj e => by subst e; exact hn _ rfl hj), hb.trans (hK.below (fun j hj => by subst hj; exact hq.1) hb.size), hD, fun r hrr => ?_⟩
  obtain rfl : r = (.slice (some ⟨q, 0, none⟩) n cap, l.set k y) := by simpa using hrr
  exact ⟨ho.store k hk y, hn⟩

theorem xor255 (e : UInt8) : ∃ y : UInt8, bits .xor .u8 (e.toNat : Int) 255 = (y.toNat : Int) := by
  have h := u8_xor_nat e.toNat 255 (by have := e.toNat_lt; omega) (by omega)
  have h2 : (e ^^^ (255 : UInt8)).toNat = e.toNat ^^^ 255 := UInt8.toNat_xor ..
  exact ⟨e ^^^ 255, by rw [h2]; exact h⟩
end Go.Proofs.Ytjeplggpogjlpaa
