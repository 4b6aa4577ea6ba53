/-
  Proved: the walk of the law DiskFlushed: what was flushed is there behind a crash, whatever is pending is left as a beginning; so it answers true and changes nothing that was there. Conditions: the bytes can be read.
-/
import Derived.Test.YtjeplggpogjlpaaDiskConv
import Derived.Deep.RegionHeld
import Derived.Deep.CutRange
namespace Go.Proofs.Ytjeplggpogjlpaa
open Go Go.RowKit DiskMath NetMem

theorem write_fits (d : Dk) (x : List UInt8) (hx : x.length = 16) (h1 : d.down = false) (h2 : d.has 0 = true) (h3 : d.hits = false) : d.write 0 x = (0, d.put 0 x) := by
  unfold Dk.write
  rw [h1, h2, h3, if_neg (by decide), if_neg (by omega), if_neg (by decide), if_neg (by decide)]
  rfl

theorem flushed_model (x y : List UInt8) (hx : x.length = 16) (hy : y.length = 16) (z : Int) : ∃ d1 d2 d3 d4 d5 d6, (Dk.new 1).write 0 x = (0, d1) ∧ d1.flush = (0, d2) ∧ d2.arm 3 [z] = d3 ∧ d3.write 0 y = (0, d4) ∧ d4.flush = (5, d5) ∧ d5.restart = d6 ∧
    d5.read 0 = y.take (keepOf [z] 0) ++ x.drop (keepOf [z] 0) ∧ d6.read 0 = y.take (keepOf [z] 0) ++ x.drop (keepOf [z] 0) ∧ d6.down = false ∧ (d6.n : Int) = 0 ∧ d1.n < 4611686018427387904 ∧ d3.n < 4611686018427387904 ∧ d3.p.length < 4294967296 ∧ d4.n < 4611686018427387904 := by
  refine ⟨(Dk.new 1).put 0 x, ((Dk.new 1).put 0 x).flushed, ((Dk.new 1).put 0 x).flushed.arm 3 [z], (((Dk.new 1).put 0 x).flushed.arm 3 [z]).put 0 y, ((((Dk.new 1).put 0 x).flushed.arm 3 [z]).put 0 y).crashed, ((((Dk.new 1).put 0 x).flushed.arm 3 [z]).put 0 y).crashed.restart,
    write_fits _ x hx rfl rfl rfl, rfl, rfl, write_fits _ y hy rfl rfl rfl, rfl, rfl, rfl, rfl, rfl, rfl, show 1 < 4611686018427387904 by decide, show 2 < 4611686018427387904 by decide, show 0 < 4294967296 by decide, show 3 < 4611686018427387904 by decide⟩

set_option maxHeartbeats 1000000 in
theorem flushed_out (p : Option Addr) (n c : Nat) (p' : Option Addr) (n' c' : Nat) (z : Int) (w : World) (h : 16 < n ∨ 16 < n') :
    Calls Try.prog 3 #[.slice p n c, .slice p' n' c', .int .i64 z] w fun e w' => e = .returned (.bool true) ∧ Below w.heap.size w w' := by
  rcases Classical.em ((16 : Int) < (n : Int)) with h1 | h1
  · clear h
    go_enter Try.func3, Try.ntmps3
    go_wp2_with fail
    refine (new_st 1 (by omega) 1 rfl w).mono ?_
    rintro e w1 ⟨g, rfl, hs⟩
    have HS := Lib.hid hs
    clear hs
    go_wp2_with fail
    all_goals
      go_ret
      exact ⟨rfl, HS.out.old⟩
  · have h2 : (16 : Int) < (n' : Int) := by omega
    clear h
    go_enter Try.func3, Try.ntmps3
    go_wp2_with fail
    refine (new_st 1 (by omega) 1 rfl w).mono ?_
    rintro e w1 ⟨g, rfl, hs⟩
    have HS := Lib.hid hs
    clear hs
    go_wp2_with fail
    all_goals
      go_ret
      exact ⟨rfl, HS.out.old⟩

set_option maxHeartbeats 1000000 in
theorem whole_sixteen (p : Option Addr) (c : Nat) (l : List UInt8) (w : World) (h : Row w (.slice p l.length c) l) :
    Calls Try.prog 9 #[.slice p l.length c] w fun e w' => ∃ q, e = .returned (.slice (some ⟨q, 0, none⟩) 16 16) ∧ Own w' w.heap.size (.slice (some ⟨q, 0, none⟩) 16 16) (pad l) ∧ Below w.heap.size w w' := by
  have hmk := madeByte
  have HO := Lib.hid (whole_own w l)
  have HB := Lib.hid (show Below w.heap.size w ((w.alloc (.cells (madeCells #[.int .u8 0] 16) 5)).setCells w.heap.size 0 (Lib.byteCells (l.take 16))) from
    (Kept.setCells (D := fun _ => False) ((Kept.refl _ w).alloc _) (.inr (Nat.le_refl _)) _ _).below (fun _ h => h.elim) (Nat.le_refl _))
  rcases Nat.eq_zero_or_pos l.length with h0 | h0
  · obtain rfl : l = [] := List.eq_nil_of_length_eq_zero h0
    have hcp := fun (w : World) (a b : Option Addr) (n c : Nat) => run_copy_none (P := Try.prog) w 22 22 3 5 a b n n 0 c Try.underlying22 sizeByte (by simp)
    clear h
    go_enter Try.func9, Try.ntmps9
    go_wp2_with fail
    go_ret
    exact ⟨_, rfl, HO.out, HB.out⟩
  · obtain ⟨hl, hlc, hcm, hcc⟩ := Row.nums h
    obtain ⟨b, o, rfl, hc⟩ := hcc (by omega)
    have HC := Lib.hid (show (Lib.byteCells (l.take 16)).length = Nat.min l.length 16 ∧ (∀ j v, (Lib.byteCells (l.take 16))[j]? = some v → (w.alloc (.cells (madeCells #[.int .u8 0] 16) 5)).cell? ((⟨b, o, none⟩ : Addr).add j) = some v) ∧
        (w.alloc (.cells (madeCells #[.int .u8 0] 16) 5)).there w.heap.size 0 (Lib.byteCells (l.take 16)).length from ⟨by
          rw [bl, List.length_take]; exact Nat.min_comm _ _, fun j v hv => by
          have hj : j < (l.take 16).length := by have := (List.getElem?_eq_some_iff.1 hv).1; rwa [bl] at this
          have hj' : j < l.length := by rw [List.length_take] at hj; omega
          rw [bc_at _ j hj] at hv
          rw [Lib.add_plain, World.cell?_alloc_lt _ _ _ (World.block_lt_of_cell? w _ (hc j hj')), hc j hj', ← hv, List.getElem_take], fun j hj => by
          rw [bl, List.length_take] at hj
          refine ⟨?_, new_free _ _ _ _⟩
          rw [new_cell, Nat.zero_add]
          have : j < (madeCells #[Value.int .u8 0] 16).size := by rw [size_madeCells]; omega
          simp [this]⟩)
    clear h hc hcc hl
    go_enter Try.func9, Try.ntmps9
    go_wp2_with (refine wpList_copy_cells (by rfl) (.tmp 5) (.tmp 6) 22 22 (by rfl) 5 Try.underlying22 sizeByte w.heap.size 0 16 16 ⟨b, o, none⟩ l.length c (by rfl) (by rfl) (Lib.byteCells (l.take 16)) HC.out.1 HC.out.2.1 HC.out.2.2 (oneCell_bytes _) ?_)
    go_wp2_with fail
    go_ret
    exact ⟨_, rfl, HO.out, HB.out⟩

/-- What holds while the law's last statement runs: the disk, and three rows. -/
def FlS (w : World) (p : Value) (d : Dk) (vz vy vx : Value) (lz ly lx : List UInt8) (W : World) : Prop := St w W p d [] ∧ Row W vz lz ∧ Row W vy ly ∧ Row W vx lx
theorem FlS.on {w W W' : World} {p : Value} {d : Dk} {vz vy vx : Value} {lz ly lx : List UInt8} (h : FlS w p d vz vy vx lz ly lx W) (hb : Below W.heap.size W W') : FlS w p d vz vy vx lz ly lx W' := ⟨h.1.below hb, h.2.1.below hb, h.2.2.1.below hb, h.2.2.2.below hb⟩
/-- What stays. -/
structure FlC (d : Dk) (vz vy vx : Value) (lz ly lx : List UInt8) (sz sy sx : ByteArray) : Prop where
  z : ∃ b o n c, vz = .slice (some ⟨b, o, none⟩) n c
  y : ∃ b o n c, vy = .slice (some ⟨b, o, none⟩) n c
  x : ∃ b o n c, vx = .slice (some ⟨b, o, none⟩) n c
  ez : (⟨lz.toArray⟩ : ByteArray) = sz
  ey : (⟨ly.toArray⟩ : ByteArray) = sy
  ex : (⟨lx.toArray⟩ : ByteArray) = sx
  rd : d.read 0 = lz
  len : lz.length = 16
  up : d.down = false
  ops : (d.n : Int) = 0
theorem conv_row' {W : World} {v : Value} {l : List UInt8} {a : ByteArray} (h : Row W v l) (hv : ∃ b o n c, v = .slice (some ⟨b, o, none⟩) n c) (ha : (⟨l.toArray⟩ : ByteArray) = a) : (convert 22 9 v).run Try.prog W = .ok (.string a) W := by
  obtain ⟨b, o, n, c, rfl⟩ := hv
  subst ha
  exact conv_row h
theorem FlS.all {w W : World} {p : Value} {d : Dk} {vz vy vx : Value} {lz ly lx : List UInt8} {sz sy sx : ByteArray} (c : FlC d vz vy vx lz ly lx sz sy sx) (h : FlS w p d vz vy vx lz ly lx W) :
    (convert 22 9 vz).run Try.prog W = .ok (.string sz) W ∧ (convert 22 9 vy).run Try.prog W = .ok (.string sy) W ∧ (convert 22 9 vx).run Try.prog W = .ok (.string sx) W ∧ FlS w p d vz vy vx lz ly lx W :=
  ⟨conv_row' h.2.1 c.z c.ez, conv_row' h.2.2.1 c.y c.ey, conv_row' h.2.2.2 c.x c.ex, h⟩
/-- All of it. -/
def FlA (w : World) (p : Value) (d : Dk) (vz vy vx : Value) (lz ly lx : List UInt8) (sz sy sx : ByteArray) (W : World) : Prop :=
  (convert 22 9 vz).run Try.prog W = .ok (.string sz) W ∧ (convert 22 9 vy).run Try.prog W = .ok (.string sy) W ∧ (convert 22 9 vx).run Try.prog W = .ok (.string sx) W ∧ FlS w p d vz vy vx lz ly lx W

theorem fl_read {w W : World} {p : Value} {d : Dk} {vz vy vx : Value} {lz ly lx : List UInt8} {sz sy sx : ByteArray} (c : FlC d vz vy vx lz ly lx sz sy sx)
    (h : (convert 22 9 vz).run Try.prog W = .ok (.string sz) W ∧ (convert 22 9 vy).run Try.prog W = .ok (.string sy) W ∧ (convert 22 9 vx).run Try.prog W = .ok (.string sx) W ∧ FlS w p d vz vy vx lz ly lx W) :
    Calls Try.prog 13 #[p, .int .i64 0] W fun e w' => ∃ q c, e = .returned (.slice (some ⟨q, 0, none⟩) 16 c) ∧ (convert 22 9 (.slice (some ⟨q, 0, none⟩) 16 c)).run Try.prog w' = .ok (.string sz) w' ∧ FlA w p d vz vy vx lz ly lx sz sy sx w' := by
  obtain ⟨⟨D, hd, hb, hD, hrr⟩, hrows⟩ := h.2.2.2
  have := read_at hd 0
  rw [c.rd] at this
  exact this.mono fun e w' ⟨v', he, ho, hbb⟩ => by
    obtain ⟨q, cc, rfl, -⟩ := own_sixteen ho c.len
    exact ⟨q, cc, he, conv_row' ho.row ⟨_, _, _, _, rfl⟩ c.ez, FlS.all c (FlS.on ⟨⟨D, hd, hb, hD, hrr⟩, hrows⟩ hbb)⟩
theorem fl_down {w W : World} {p : Value} {d : Dk} {vz vy vx : Value} {lz ly lx : List UInt8} {sz sy sx : ByteArray} (c : FlC d vz vy vx lz ly lx sz sy sx)
    (h : (convert 22 9 vz).run Try.prog W = .ok (.string sz) W ∧ (convert 22 9 vy).run Try.prog W = .ok (.string sy) W ∧ (convert 22 9 vx).run Try.prog W = .ok (.string sx) W ∧ FlS w p d vz vy vx lz ly lx W) :
    Calls Try.prog 15 #[p] W fun e w' => e = .returned (.bool false) ∧ FlA w p d vz vy vx lz ly lx sz sy sx w' :=
  (down_st h.2.2.2.1 c.up).mono fun _ _ ⟨he, hw⟩ => ⟨he, hw ▸ h⟩
theorem fl_ops {w W : World} {p : Value} {d : Dk} {vz vy vx : Value} {lz ly lx : List UInt8} {sz sy sx : ByteArray} (c : FlC d vz vy vx lz ly lx sz sy sx)
    (h : (convert 22 9 vz).run Try.prog W = .ok (.string sz) W ∧ (convert 22 9 vy).run Try.prog W = .ok (.string sy) W ∧ (convert 22 9 vx).run Try.prog W = .ok (.string sx) W ∧ FlS w p d vz vy vx lz ly lx W) :
    Calls Try.prog 16 #[p] W fun e w' => e = .returned (.int .i64 0) ∧ FlA w p d vz vy vx lz ly lx sz sy sx w' :=
  (ops_st h.2.2.2.1 c.ops).mono fun _ _ ⟨he, hw⟩ => ⟨he, hw ▸ h⟩
theorem fl_known {w W : World} {p : Value} {d : Dk} {vz vy vx : Value} {lz ly lx : List UInt8} {sz sy sx : ByteArray} (c : FlC d vz vy vx lz ly lx sz sy sx)
    (h : (convert 22 9 vz).run Try.prog W = .ok (.string sz) W ∧ (convert 22 9 vy).run Try.prog W = .ok (.string sy) W ∧ (convert 22 9 vx).run Try.prog W = .ok (.string sx) W ∧ FlS w p d vz vy vx lz ly lx W) :
    Calls Try.prog 17 #[] W fun e w' => e = .returned (.bool true) ∧ FlA w p d vz vy vx lz ly lx sz sy sx w' :=
  (known_any W).mono fun _ _ ⟨he, hb⟩ => ⟨he, FlS.all c (h.2.2.2.on hb)⟩

theorem cat_bytes (a b : List UInt8) : (⟨a.toArray⟩ : ByteArray) ++ (⟨b.toArray⟩ : ByteArray) = ⟨(a ++ b).toArray⟩ := by
  apply ByteArray.ext
  simp

/-- The first k bytes of a row, the others. -/
theorem row_take {w : World} {b o n cap : Nat} {l : List UInt8} (h : Row w (.slice (some ⟨b, o, none⟩) n cap) l) (k : Nat) (hk : k ≤ n) (h0 : 0 < cap) : Row w (.slice (some ⟨b, o, none⟩) k cap) (l.take k) := by
  obtain ⟨rfl, hlc, hcm, -⟩ := Row.nums h
  have hc := Row.range h h0
  have hl : (l.take k).length = k := by rw [List.length_take]; omega
  refine ⟨some ⟨b, o, none⟩, cap, by rw [hl], by omega, hcm, fun _ => ⟨b, o, rfl, fun i hi => ?_⟩⟩
  rw [hc i (by omega), List.getElem_take]
theorem row_drop {w : World} {b n cap : Nat} {l : List UInt8} (h : Row w (.slice (some ⟨b, 0, none⟩) n cap) l) (k : Nat) (hk : k ≤ n) (h0 : 0 < cap) : Row w (.slice (some ⟨b, k, none⟩) (n - k) (cap - k)) (l.drop k) := by
  obtain ⟨rfl, hlc, hcm, -⟩ := Row.nums h
  have hc := Row.range h h0
  refine ⟨some ⟨b, k, none⟩, cap - k, by rw [List.length_drop], by rw [List.length_drop]; omega, by omega, fun _ => ⟨b, k, rfl, fun i hi => ?_⟩⟩
  rw [List.length_drop] at hi
  have := hc (k + i) (by omega)
  rw [Nat.zero_add] at this
  rw [this, List.getElem_drop]

/-- The bytes that a crash leaves: their number. -/
theorem kept_number (z : Int) : z ≤ 0 ∧ ((keepOf [z] 0 : Nat) : Int) = 0 ∨ 0 < z ∧ z ≤ 16 ∧ ((keepOf [z] 0 : Nat) : Int) = z ∨ 16 < z ∧ ((keepOf [z] 0 : Nat) : Int) = 16 := by
  have h : keepOf [z] 0 = (max 0 (min z 16)).toNat := rfl
  rw [h]
  omega

set_option maxHeartbeats 8000000 in
set_option maxRecDepth 100000 in
theorem flushed_in (p : Option Addr) (c : Nat) (l : List UInt8) (p' : Option Addr) (c' : Nat) (l' : List UInt8) (z : Int) (w : World) (h : Row w (.slice p l.length c) l) (h' : Row w (.slice p' l'.length c') l') (h1 : l.length ≤ 16) (h2 : l'.length ≤ 16) :
    Calls Try.prog 3 #[.slice p l.length c, .slice p' l'.length c', .int .i64 z] w fun e w' => e = .returned (.bool true) ∧ Below w.heap.size w w' := by
  have HH := Lib.hid (And.intro h h')
  have hl1 : (l.length : Int) ≤ (16 : Int) := by omega
  have hl2 : (l'.length : Int) ≤ (16 : Int) := by omega
  obtain ⟨d1, d2, d3, d4, d5, d6, hm⟩ := flushed_model (pad l) (pad l') (pad_length l) (pad_length l') z
  obtain ⟨kk, hkk⟩ : ∃ kk, kk = keepOf [z] 0 := ⟨_, rfl⟩
  have hkn := kept_number z
  have hk16 : kk ≤ 16 := by rw [hkk]; exact keepOf_le _ _
  rw [← hkk] at hm hkn
  have HM := Lib.hid hm
  have HN := Lib.hid hkn
  clear h h' h1 h2 hm hkk hkn
  go_enter Try.func3, Try.ntmps3
  go_wp2_with fail
  refine (new_st 1 (by omega) 1 rfl w).mono ?_
  rintro e w1 ⟨g, rfl, hs⟩
  have HS := Lib.hid hs
  clear hs
  go_wp2_with fail
  refine (whole_sixteen p c l w1 (HH.out.1.below HS.out.old)).mono ?_
  rintro e w2 ⟨gx, rfl, ho, hb⟩
  have H2 := Lib.hid (HS.out.more hb ho)
  clear ho hb
  go_wp2_with fail
  refine (whole_sixteen p' c' l' w2 (HH.out.2.below H2.out.old)).mono ?_
  rintro e w3 ⟨gy, rfl, ho, hb⟩
  have H3 := Lib.hid (H2.out.more hb ho)
  clear ho hb
  go_wp2_with fail
  refine (write_st H3.out 0 (H3.out.row (List.mem_cons_of_mem _ List.mem_cons_self)).row HM.out.1 (by decide) (by decide)).mono ?_
  rintro e w4 ⟨rfl, hs⟩
  have H4 := Lib.hid hs
  clear hs
  go_wp2_with fail
  refine (flush_st H4.out HM.out.2.1 HM.out.2.2.2.2.2.2.2.2.2.2.1).mono ?_
  rintro e w5 ⟨rfl, hs⟩
  have H5 := Lib.hid (hs.below ((Below.refl _ w5).alloc (Nat.le_refl _) (.cells #[.int .i64 z] 31)))
  have HK := Lib.hid (keeps_new w5 z 31)
  clear hs
  go_wp2_with fail
  refine (arm_st H5.out 3 HK.out (by simp) HM.out.2.2.1).mono ?_
  rintro e w6 ⟨rfl, hs⟩
  have H6 := Lib.hid hs
  clear hs
  go_wp2_with fail
  refine (write_st H6.out 0 (H6.out.row List.mem_cons_self).row HM.out.2.2.2.1 HM.out.2.2.2.2.2.2.2.2.2.2.2.1 HM.out.2.2.2.2.2.2.2.2.2.2.2.2.1).mono ?_
  rintro e w7 ⟨rfl, hs⟩
  have H7 := Lib.hid hs
  clear hs
  go_wp2_with fail
  refine (flush_st H7.out HM.out.2.2.2.2.1 HM.out.2.2.2.2.2.2.2.2.2.2.2.2.2).mono ?_
  rintro e w8 ⟨rfl, hs⟩
  have H8 := Lib.hid hs
  clear hs
  go_upto_region 9 with fail
  go_cut [12] from 55 to 57 (fun v12 wx => v12 = .int .i64 (kk : Int) ∧ wx = w8)
  case first =>
    rcases HN.out with ⟨ha, hb⟩ | ⟨ha, ha', hb⟩ | ⟨ha, hb⟩
    all_goals
      have HBB := Lib.hid hb
      clear hb
      go_wp2_with fail
      all_goals
        go_meet
        exact ⟨by rw [HBB.out]; first | done | (congr 1; omega), rfl⟩
  case rest =>
  obtain ⟨rfl, rfl⟩ := hcut
  go_wp2_with fail
  refine (read_st H8.out 0 HM.out.2.2.2.2.2.2.1).mono ?_
  rintro e w9 ⟨v, rfl, hs⟩
  have hzl : ((pad l').take kk ++ (pad l).drop kk).length = 16 := torn_length (pad_length l') (pad_length l) hk16
  obtain ⟨gz, cz, rfl, -⟩ := own_sixteen (hs.row List.mem_cons_self) hzl
  have H9 := Lib.hid hs
  have HZ := Lib.hid hzl
  clear hs hzl
  go_wp2_with fail
  refine (restart_st H9.out HM.out.2.2.2.2.2.1).mono ?_
  rintro e w10 ⟨rfl, hs⟩
  have H10 := Lib.hid hs
  clear hs
  have hrz := (H10.out.row List.mem_cons_self).row
  have hry := (H10.out.row (List.mem_cons_of_mem _ List.mem_cons_self)).row
  have hrx := (H10.out.row (List.mem_cons_of_mem _ (List.mem_cons_of_mem _ List.mem_cons_self))).row
  obtain ⟨sz, hsz⟩ : ∃ sz : ByteArray, (⟨((pad l').take kk ++ (pad l).drop kk).toArray⟩ : ByteArray) = sz := ⟨_, rfl⟩
  obtain ⟨sy, hsy⟩ : ∃ sy : ByteArray, (⟨((pad l').take kk).toArray⟩ : ByteArray) = sy := ⟨_, rfl⟩
  obtain ⟨sx, hsx⟩ : ∃ sx : ByteArray, (⟨((pad l).drop kk).toArray⟩ : ByteArray) = sx := ⟨_, rfl⟩
  have hcat : sy ++ sx = sz := by rw [← hsy, ← hsx, ← hsz, cat_bytes]
  have hzy : sy.size ≤ 1000 := by rw [← hsy]; show ((pad l').take kk).toArray.size ≤ 1000; have := pad_length l'; simp; omega
  have hzx : sx.size ≤ 1000 := by rw [← hsx]; show ((pad l).drop kk).toArray.size ≤ 1000; have := pad_length l; simp; omega
  have hzz : sz.size ≤ 2000 := by rw [← hsz]; show ((pad l').take kk ++ (pad l).drop kk).toArray.size ≤ 2000; have := HZ.out; simp at this ⊢; omega
  clear HN HH HS H2 H3 H4 H5 H6 H7 H8 H9 HK
  rcases (show kk < 16 ∨ kk = 16 by omega) with hlt | rfl
  · have hk0 : (0 : Int) ≤ (kk : Int) := by omega
    have hk1 : (kk : Int) < (16 : Int) := by omega
    have hk2 : (kk : Int) ≤ (16 : Int) := by omega
    have hk3 : ¬ 16 = kk := by omega
    have HC := Lib.hid (show FlC d6 (.slice (some ⟨gz, 0, none⟩) 16 cz) (.slice (some ⟨gy, 0, none⟩) kk 16) (.slice (some ⟨gx, kk, none⟩) (16 - kk) (16 - kk)) ((pad l').take kk ++ (pad l).drop kk) ((pad l').take kk) ((pad l).drop kk) sz sy sx from
      ⟨⟨_, _, _, _, rfl⟩, ⟨_, _, _, _, rfl⟩, ⟨_, _, _, _, rfl⟩, hsz, hsy, hsx, HM.out.2.2.2.2.2.2.2.1, HZ.out, HM.out.2.2.2.2.2.2.2.2.1, HM.out.2.2.2.2.2.2.2.2.2.1⟩)
    have HW := Lib.hid (FlS.all HC.out (W := w10.drew) (FlS.on (w := w) (p := .pointer (some ⟨g, 0, none⟩)) ⟨H10.out.less (fun r hr => by cases hr), hrz, row_take hry kk (by omega) (by omega), row_drop hrx kk (by omega) (by omega)⟩ (below_drew _ w10)))
    clear hrz hry hrx hsz hsy hsx
    go_wp2_with fail
    go_region_held (fun W => (convert 22 9 (.slice (some ⟨gz, 0, none⟩) 16 cz)).run Try.prog W = .ok (.string sz) W ∧ (convert 22 9 (.slice (some ⟨gy, 0, none⟩) kk 16)).run Try.prog W = .ok (.string sy) W ∧ (convert 22 9 (.slice (some ⟨gx, kk, none⟩) (16 - kk) (16 - kk))).run Try.prog W = .ok (.string sx) W ∧
        FlS w (.pointer (some ⟨g, 0, none⟩)) d6 (.slice (some ⟨gz, 0, none⟩) 16 cz) (.slice (some ⟨gy, 0, none⟩) kk 16) (.slice (some ⟨gx, kk, none⟩) (16 - kk) (16 - kk)) ((pad l').take kk ++ (pad l).drop kk) ((pad l').take kk) ((pad l).drop kk) W) (first | assumption | exact HW.out)
      (first
        | (go_at_call 13; (with_reducible refine (fl_read HC.out (by assumption)).mono ?_); rintro e w11 ⟨q11, c11, rfl, hcv11, hs11⟩; unfold FlA at hs11)
        | (go_at_call 15; (with_reducible refine (fl_down HC.out (by assumption)).mono ?_); rintro e w12 ⟨rfl, hs12⟩; unfold FlA at hs12)
        | (go_at_call 16; (with_reducible refine (fl_ops HC.out (by assumption)).mono ?_); rintro e w13 ⟨rfl, hs13⟩; unfold FlA at hs13)
        | (go_at_call 17; (with_reducible refine (fl_known HC.out (by assumption)).mono ?_); rintro e w14 ⟨rfl, hs14⟩; unfold FlA at hs14))
    all_goals
      have HE := Lib.hid (show Below w.heap.size w w14 from hs14.2.2.2.1.old)
      clear hs14
      go_wp2_with fail
      go_ret
      exact ⟨rfl, HE.out⟩
  · have hnil : (pad l).drop 16 = [] := List.drop_eq_nil_of_le (by rw [pad_length]; exact Nat.le_refl _)
    have HC := Lib.hid (show FlC d6 (.slice (some ⟨gz, 0, none⟩) 16 cz) (.slice (some ⟨gy, 0, none⟩) 16 16) (.slice (some ⟨gx, 0, none⟩) 0 0) ((pad l').take 16 ++ (pad l).drop 16) ((pad l').take 16) ((pad l).drop 16) sz sy sx from
      ⟨⟨_, _, _, _, rfl⟩, ⟨_, _, _, _, rfl⟩, ⟨_, _, _, _, rfl⟩, hsz, hsy, hsx, HM.out.2.2.2.2.2.2.2.1, HZ.out, HM.out.2.2.2.2.2.2.2.2.1, HM.out.2.2.2.2.2.2.2.2.2.1⟩)
    have HW := Lib.hid (FlS.all HC.out (W := w10.drew) (FlS.on (w := w) (p := .pointer (some ⟨g, 0, none⟩)) ⟨H10.out.less (fun r hr => by cases hr), hrz, row_take hry 16 (by omega) (by omega), by rw [hnil]; exact ⟨_, 0, rfl, Nat.le_refl _, by simp [maxLen], fun h => absurd h (Nat.lt_irrefl 0)⟩⟩ (below_drew _ w10)))
    clear hnil
    clear hrz hry hrx hsz hsy hsx
    go_wp2_with fail
    go_region_held (fun W => (convert 22 9 (.slice (some ⟨gz, 0, none⟩) 16 cz)).run Try.prog W = .ok (.string sz) W ∧ (convert 22 9 (.slice (some ⟨gy, 0, none⟩) 16 16)).run Try.prog W = .ok (.string sy) W ∧ (convert 22 9 (.slice (some ⟨gx, 0, none⟩) 0 0)).run Try.prog W = .ok (.string sx) W ∧
        FlS w (.pointer (some ⟨g, 0, none⟩)) d6 (.slice (some ⟨gz, 0, none⟩) 16 cz) (.slice (some ⟨gy, 0, none⟩) 16 16) (.slice (some ⟨gx, 0, none⟩) 0 0) ((pad l').take 16 ++ (pad l).drop 16) ((pad l').take 16) ((pad l).drop 16) W) (first | assumption | exact HW.out)
      (first
        | (go_at_call 13; (with_reducible refine (fl_read HC.out (by assumption)).mono ?_); rintro e w11 ⟨q11, c11, rfl, hcv11, hs11⟩; unfold FlA at hs11)
        | (go_at_call 15; (with_reducible refine (fl_down HC.out (by assumption)).mono ?_); rintro e w12 ⟨rfl, hs12⟩; unfold FlA at hs12)
        | (go_at_call 16; (with_reducible refine (fl_ops HC.out (by assumption)).mono ?_); rintro e w13 ⟨rfl, hs13⟩; unfold FlA at hs13)
        | (go_at_call 17; (with_reducible refine (fl_known HC.out (by assumption)).mono ?_); rintro e w14 ⟨rfl, hs14⟩; unfold FlA at hs14))
    all_goals
      have HE := Lib.hid (show Below w.heap.size w w14 from hs14.2.2.2.1.old)
      clear hs14
      go_wp2_with fail
      go_ret
      exact ⟨rfl, HE.out⟩

/-- THE LAW's WALK. -/
theorem flushed_law (p : Option Addr) (c : Nat) (l : List UInt8) (p' : Option Addr) (c' : Nat) (l' : List UInt8) (z : Int) (w : World) (h : Row w (.slice p l.length c) l) (h' : Row w (.slice p' l'.length c') l') :
    Calls Try.prog 3 #[.slice p l.length c, .slice p' l'.length c', .int .i64 z] w fun e w' => e = .returned (.bool true) ∧ Below w.heap.size w w' := by
  by_cases h16 : 16 < l.length ∨ 16 < l'.length
  · exact flushed_out p l.length c p' l'.length c' z w h16
  · exact flushed_in p c l p' c' l' z w h h' (by omega) (by omega)
end Go.Proofs.Ytjeplggpogjlpaa
