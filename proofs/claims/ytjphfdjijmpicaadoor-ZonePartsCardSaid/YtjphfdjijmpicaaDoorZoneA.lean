/- The walks of package zone: Of, Can, Same. -/
import Derived.Test.YtjphfdjijmpicaaDoorZoneM
import Derived.Test.YtjphfdjijmpicaaDoorRCmp
import Derived.Test.YtjphfdjijmpicaaDoorCell
import Derived.Deep.RegionHeld3
namespace Go.Proofs.YtjphfdjijmpicaaDoor
open Go.RowKit
set_option linter.unusedVariables false

abbrev v3 (x : Val3) : Value := vagg x.1 x.2.1 x.2.2
abbrev zagg (n : Int) (a b : Val3) : Value := .agg #[.int .i64 n, .int .i64 a.1, .int .i64 a.2.1, .string a.2.2, .int .i64 b.1, .int .i64 b.2.1, .string b.2.2]
abbrev zc (n a1 a2 : Int) (a3 : ByteArray) (b1 b2 : Int) (b3 : ByteArray) : Array Value := #[.int .i64 n, .int .i64 a1, .int .i64 a2, .string a3, .int .i64 b1, .int .i64 b2, .string b3]
section
variable {w : World} {g : Nat} {t : TypeId} {n a1 a2 : Int} {a3 : ByteArray} {b1 b2 : Int} {b3 : ByteArray}
theorem zc_null (h : Blk w g (zc n a1 a2 a3 b1 b2 b3) t) (m : Int) : Blk (w.setCell ⟨g, 0, none⟩ (.int .i64 m)) g (zc m a1 a2 a3 b1 b2 b3) t := h.set_ 0 _
theorem zc_min (h : Blk w g (zc n a1 a2 a3 b1 b2 b3) t) (x y : Int) (z : ByteArray) : Blk (((w.setCell ⟨g, 1, none⟩ (.int .i64 x)).setCell ⟨g, 2, none⟩ (.int .i64 y)).setCell ⟨g, 3, none⟩ (.string z)) g (zc n x y z b1 b2 b3) t := ((h.set_ 1 _).set_ 2 _).set_ 3 _
theorem zc_max (h : Blk w g (zc n a1 a2 a3 b1 b2 b3) t) (x y : Int) (z : ByteArray) : Blk (((w.setCell ⟨g, 4, none⟩ (.int .i64 x)).setCell ⟨g, 5, none⟩ (.int .i64 y)).setCell ⟨g, 6, none⟩ (.string z)) g (zc n a1 a2 a3 x y z) t := ((h.set_ 4 _).set_ 5 _).set_ 6 _
end
theorem three_at {w w' : World} {g : Nat} (h : Later w w') (hg : w.heap.size ≤ g) (i j k : Nat) (x y z : Value) : Later w (((w'.setCell ⟨g, i, none⟩ x).setCell ⟨g, j, none⟩ y).setCell ⟨g, k, none⟩ z) := ((h.set_ hg _).set_ hg _).set_ hg _
theorem three_off {w : World} {g v : Nat} {cs : Array Value} {t : TypeId} (h : Blk w v cs t) (hne : v ≠ g) (i j k : Nat) (x y z : Value) : Blk (((w.setCell ⟨g, i, none⟩ x).setCell ⟨g, j, none⟩ y).setCell ⟨g, k, none⟩ z) v cs t := ((h.far hne _).far hne _).far hne _

/-- The zone on its way: of the first k values. -/
def ZInv (l : List Val3) (w : World) (iv : Value) (wr : World) : Prop :=
  ∃ (k : Nat) (n a1 a2 : Int) (a3 : ByteArray) (b1 b2 : Int) (b3 : ByteArray), iv = .int .i64 k ∧ k ≤ l.length ∧ n = (nullsZ (l.take k) : Int) ∧ (a1, a2, a3) = lowZs none3 (l.take k) ∧ (b1, b2, b3) = topZs none3 (l.take k) ∧
    Blk wr (w.heap.size + 1) (zc n a1 a2 a3 b1 b2 b3) 31 ∧ Blk wr w.heap.size (zc 0 0 0 ⟨#[]⟩ 0 0 ⟨#[]⟩) 31 ∧ Later w wr
theorem ZInv.mk {l : List Val3} {w wr : World} (i : Int) (k : Nat) (n a1 a2 : Int) (a3 : ByteArray) (b1 b2 : Int) (b3 : ByteArray) (hi : i = (k : Int)) (hk : k ≤ l.length) (hn : n = (nullsZ (l.take k) : Int)) (ha : (a1, a2, a3) = lowZs none3 (l.take k)) (hb : (b1, b2, b3) = topZs none3 (l.take k))
    (B : Blk wr (w.heap.size + 1) (zc n a1 a2 a3 b1 b2 b3) 31) (R : Blk wr w.heap.size (zc 0 0 0 ⟨#[]⟩ 0 0 ⟨#[]⟩) 31) (L : Later w wr) : ZInv l w (.int .i64 i) wr := by
  subst hi
  exact ⟨k, n, a1, a2, a3, b1, b2, b3, rfl, hk, hn, ha, hb, B, R, L⟩
theorem zstep_null {l : List Val3} {k : Nat} (hk : k < l.length) (h : l[k].1 = 0) {n : Int} (hn : n = (nullsZ (l.take k) : Int)) {a b : Val3} (ha : a = lowZs none3 (l.take k)) (hb : b = topZs none3 (l.take k)) :
    n + 1 = (nullsZ (l.take (k + 1)) : Int) ∧ a = lowZs none3 (l.take (k + 1)) ∧ b = topZs none3 (l.take (k + 1)) := by
  rw [List.take_succ_eq_append_getElem hk, nullsZ_snoc, lowZs_snoc, topZs_snoc, ← ha, ← hb, if_pos h]
  unfold lowZ topZ
  rw [if_pos h, if_pos h]
  exact ⟨by omega, rfl, rfl⟩
theorem zstep_some {l : List Val3} {k : Nat} (hk : k < l.length) (h : l[k].1 ≠ 0) {n : Int} (hn : n = (nullsZ (l.take k) : Int)) {a b : Val3} (ha : a = lowZs none3 (l.take k)) (hb : b = topZs none3 (l.take k)) :
    n = (nullsZ (l.take (k + 1)) : Int) ∧ lowZ a l[k] = lowZs none3 (l.take (k + 1)) ∧ topZ b l[k] = topZs none3 (l.take (k + 1)) := by
  rw [List.take_succ_eq_append_getElem hk, nullsZ_snoc, lowZs_snoc, topZs_snoc, ← ha, ← hb, if_neg h]
  exact ⟨by omega, rfl, rfl⟩

set_option maxRecDepth 100000 in
set_option maxHeartbeats 8000000 in
theorem zoneOf_any (A : Option Addr) (m c : Nat) (l : List Val3) (w : World) (hm : m = l.length) (hl : l.length ≤ 1000) (hr : Has w A (fl l)) :
    Calls Tryd.prog 7 #[.slice A m c] w fun e w' => e = .returned (zagg (nullsZ l) (lowZs none3 l) (topZs none3 l)) ∧ Later w w' := by
  subst hm
  have R0 := (Blk.new w (zc 0 0 0 ⟨#[]⟩ 0 0 ⟨#[]⟩) 31 w.heap.size rfl).later (Later.new _ (.cells (zc 0 0 0 ⟨#[]⟩ 0 0 ⟨#[]⟩) 31))
  have Z0 := Blk.new (w.alloc (.cells (zc 0 0 0 ⟨#[]⟩ 0 0 ⟨#[]⟩) 31)) (zc 0 0 0 ⟨#[]⟩ 0 0 ⟨#[]⟩) 31 (w.heap.size + 1) (by simp)
  have L0 := (Later.new w (.cells (zc 0 0 0 ⟨#[]⟩ 0 0 ⟨#[]⟩) 31)).alloc (.cells (zc 0 0 0 ⟨#[]⟩ 0 0 ⟨#[]⟩) 31)
  have HR := Lib.hid hr
  have HI0 := Lib.hid (ZInv.mk (l := l) (w := w) 0 0 0 0 0 ⟨#[]⟩ 0 0 ⟨#[]⟩ rfl (Nat.zero_le _) rfl rfl rfl Z0 R0 L0)
  clear hr R0 Z0 L0
  go_enter Tryd.func7, Tryd.ntmps7
  go_wp2_with fail
  go_loopw [8] (fun iv wr => ZInv l w iv wr) (fun i _ => l.length - (intOf i).toNat)
  case atStart => exact HI0.out
  case round =>
    obtain ⟨k, n, a1, a2, a3, b1, b2, b3, rfl, hk, hn, ha, hb, BZ, BR, lat⟩ := hrel
    obtain ⟨gz, hgz⟩ : ∃ g, g = w.heap.size + 1 := ⟨_, rfl⟩
    obtain ⟨gr, hgr⟩ : ∃ g, g = w.heap.size := ⟨_, rfl⟩
    have HGZ := Lib.hid hgz
    have HGR := Lib.hid hgr
    have hnk : n ≤ 1000 ∧ 0 ≤ n := by
      have := nullsZ_le (l.take k)
      rw [List.length_take] at this
      omega
    rw [← hgz] at BZ ⊢
    rw [← hgr] at BR ⊢
    have hzl := BZ.lt
    have HN := Lib.hid hn
    have HA := Lib.hid ha
    have HB := Lib.hid hb
    have HLAT := Lib.hid lat
    clear hn ha hb HI0 hgz hgr
    by_cases hlt : k < l.length
    · obtain ⟨bb, off, hadr, c0, c1, c2⟩ := (HR.out.later lat).val3 k hlt
      subst hadr
      have HX := Lib.hid (show l[k] = (l[k].1, l[k].2.1, l[k].2.2) from rfl)
      have HS0 := Lib.hid (fun h => zstep_null hlt h HN.out HA.out HB.out)
      have HS1 := Lib.hid (fun h => zstep_some hlt h HN.out HA.out HB.out)
      rw [show l[k] = (l[k].1, l[k].2.1, l[k].2.2) from rfl] at HS0 HS1
      clear HX
      generalize l[k].1 = t at c0 HS0 HS1
      generalize l[k].2.1 = i at c1 HS0 HS1
      generalize l[k].2.2 = s at c2 HS0 HS1
      obtain ⟨gv, hgv⟩ : ∃ g, wr.heap.size = g := ⟨_, rfl⟩
      have hvz : gv ≠ gz := by omega
      obtain ⟨w1, hw1⟩ : ∃ x, wr.alloc (.cells #[.int .i64 t, .int .i64 i, .string s] 28) = x := ⟨_, rfl⟩
      have hvr : gr ≠ gz := by have := HGZ.out; have := HGR.out; omega
      have BV := Blk.new wr #[.int .i64 t, .int .i64 i, .string s] 28 gv hgv.symm
      have BZ := BZ.later (Later.new wr (.cells #[.int .i64 t, .int .i64 i, .string s] 28))
      have BR := BR.later (Later.new wr (.cells #[.int .i64 t, .int .i64 i, .string s] 28))
      have LW := HLAT.out.alloc (.cells #[.int .i64 t, .int .i64 i, .string s] 28)
      rw [hw1] at BV BZ BR LW
      clear lat HN HA HB
      by_cases ht : t = 0
      · have HT := Lib.hid (HS0.out ht)
        subst ht
        have z0 := BZ.cell 0 _ rfl
        have y0 := BZ.frozen 0
        have hw : IntKind.i64.wrap (n + 1) = n + 1 := IntWalk.i64_in _ ⟨by omega, by omega⟩
        have HZ2 := Lib.hid (zc_null BZ (n + 1))
        have HR2 := Lib.hid (BR.far (p := ⟨gz, 0, none⟩) hvr (.int .i64 (n + 1)))
        have HL2 := Lib.hid (LW.set_ (p := ⟨gz, 0, none⟩) (by show w.heap.size ≤ gz; have := HGZ.out; omega) (.int .i64 (n + 1)))
        obtain ⟨wq, hwq⟩ : ∃ x, w1.setCell ⟨gz, 0, none⟩ (.int .i64 (n + 1)) = x := ⟨_, rfl⟩
        rw [hwq] at HZ2 HR2 HL2
        have v0 := BV.cell 0 _ rfl
        clear BZ BR LW BV HS0 HS1
        go_wp2_with fail
        go_roundw
        case rel =>
          rw [HGZ.out] at HZ2
          rw [HGR.out] at HR2
          refine ZInv.mk _ (k + 1) (n + 1) a1 a2 a3 b1 b2 b3 (by omega) hlt HT.out.1 HT.out.2.1 HT.out.2.2 HZ2.out HR2.out HL2.out
        case measure => simp [intOf]; omega
      · have HT := Lib.hid (HS1.out ht)
        have ht0 : (t == 0) = false := by simpa using ht
        have hgz2 : w.heap.size ≤ gz := by have := HGZ.out; omega
        clear HS0 HS1
        by_cases ha1 : a1 = 0
        · subst ha1
          have haT : lowZ (0, a2, a3) (t, i, s) = (t, i, s) := by unfold lowZ; rw [if_neg ht, if_pos (.inl rfl)]
          have HAT := Lib.hid haT
          clear haT
          have v0 := BV.cell 0 _ rfl
          have v1 := BV.cell 1 _ rfl
          have v2 := BV.cell 2 _ rfl
          have z1 := BZ.cell 1 _ rfl
          have z2 := BZ.cell 2 _ rfl
          have z3 := BZ.cell 3 _ rfl
          have y1 := BZ.frozen 1
          have y2 := BZ.frozen 2
          have y3 := BZ.frozen 3
          have BZm := zc_min BZ t i s
          have BRm := three_off BR hvr 1 2 3 (.int .i64 t) (.int .i64 i) (.string s)
          have BVm := three_off BV hvz 1 2 3 (.int .i64 t) (.int .i64 i) (.string s)
          have Lm := three_at LW hgz2 1 2 3 (.int .i64 t) (.int .i64 i) (.string s)
          obtain ⟨wm, hwm⟩ : ∃ x, (((w1.setCell ⟨gz, 1, none⟩ (.int .i64 t)).setCell ⟨gz, 2, none⟩ (.int .i64 i)).setCell ⟨gz, 3, none⟩ (.string s)) = x := ⟨_, rfl⟩
          rw [hwm] at BZm BRm BVm Lm
          clear BZ BR BV LW
          by_cases hb1 : b1 = 0
          · subst hb1
            have BZn := BZm
            have BRn := BRm
            have BVn := BVm
            have Ln := Lm
            have hbT : topZ (0, b2, b3) (t, i, s) = (t, i, s) := by unfold topZ; rw [if_neg ht, if_pos (.inl rfl)]
            have HBT := Lib.hid hbT
            clear BZm BRm BVm Lm hbT
            have v0 := BVn.cell 0 _ rfl
            have v1 := BVn.cell 1 _ rfl
            have v2 := BVn.cell 2 _ rfl
            have z4 := BZn.cell 4 _ rfl
            have z5 := BZn.cell 5 _ rfl
            have z6 := BZn.cell 6 _ rfl
            have y4 := BZn.frozen 4
            have y5 := BZn.frozen 5
            have y6 := BZn.frozen 6
            have HZq := Lib.hid (zc_max BZn t i s)
            have HRq := Lib.hid (three_off BRn hvr 4 5 6 (.int .i64 t) (.int .i64 i) (.string s))
            have HLq := Lib.hid (three_at Ln hgz2 4 5 6 (.int .i64 t) (.int .i64 i) (.string s))
            obtain ⟨wq, hwq⟩ : ∃ x, (((wm.setCell ⟨gz, 4, none⟩ (.int .i64 t)).setCell ⟨gz, 5, none⟩ (.int .i64 i)).setCell ⟨gz, 6, none⟩ (.string s)) = x := ⟨_, rfl⟩
            rw [hwq] at HZq HRq HLq
            clear BZn BRn BVn Ln
            go_wp2_with fail
            go_roundw
            case rel =>
              rw [HGZ.out] at HZq
              rw [HGR.out] at HRq
              exact ZInv.mk _ (k + 1) n t i s t i s (by omega) hlt HT.out.1 (HAT.out.symm.trans HT.out.2.1) (HBT.out.symm.trans HT.out.2.2) HZq.out HRq.out HLq.out
            case measure => simp [intOf]; omega
          · have z4 := BZm.cell 4 _ rfl
            have z5 := BZm.cell 5 _ rfl
            have z6 := BZm.cell 6 _ rfl
            have v0 := BVm.cell 0 _ rfl
            have v1 := BVm.cell 1 _ rfl
            have v2 := BVm.cell 2 _ rfl
            have hb0 : (b1 == 0) = false := by simpa using hb1
            have HC := Lib.hid (valCmp_any t i s b1 b2 b3 wm)
            obtain ⟨cb, hcb⟩ : ∃ c, c = cmpV t i s b1 b2 b3 := ⟨_, rfl⟩
            rw [← hcb] at HC
            have HCB := Lib.hid hcb
            have HZm := Lib.hid BZm
            have HRm := Lib.hid BRm
            have HVm := Lib.hid BVm
            have HLm := Lib.hid Lm
            clear BZm BRm BVm Lm hcb
            go_wp2_with fail
            refine HC.out.mono ?_
            rintro e wn2 ⟨rfl, ln⟩
            have BZn := HZm.out.later ln
            have BRn := HRm.out.later ln
            have BVn := HVm.out.later ln
            have Ln := HLm.out.trans ln
            clear z4 z5 z6 v0 v1 v2 HC HZm HRm HVm HLm ln
            by_cases hcb0 : 0 < cb
            · have hd : decide ((0 : Int) < cb) = true := by simpa using hcb0
              have hbT : topZ (b1, b2, b3) (t, i, s) = (t, i, s) := by unfold topZ; rw [if_neg ht, if_pos (.inr (show 0 < cmpV t i s b1 b2 b3 by rw [← HCB.out]; exact hcb0))]
              have HBT := Lib.hid hbT
              clear hbT
              have v0 := BVn.cell 0 _ rfl
              have v1 := BVn.cell 1 _ rfl
              have v2 := BVn.cell 2 _ rfl
              have z4 := BZn.cell 4 _ rfl
              have z5 := BZn.cell 5 _ rfl
              have z6 := BZn.cell 6 _ rfl
              have y4 := BZn.frozen 4
              have y5 := BZn.frozen 5
              have y6 := BZn.frozen 6
              have HZq := Lib.hid (zc_max BZn t i s)
              have HRq := Lib.hid (three_off BRn hvr 4 5 6 (.int .i64 t) (.int .i64 i) (.string s))
              have HLq := Lib.hid (three_at Ln hgz2 4 5 6 (.int .i64 t) (.int .i64 i) (.string s))
              obtain ⟨wq, hwq⟩ : ∃ x, (((wn2.setCell ⟨gz, 4, none⟩ (.int .i64 t)).setCell ⟨gz, 5, none⟩ (.int .i64 i)).setCell ⟨gz, 6, none⟩ (.string s)) = x := ⟨_, rfl⟩
              rw [hwq] at HZq HRq HLq
              clear BZn BRn BVn Ln
              go_wp2_with fail
              go_roundw
              case rel =>
                rw [HGZ.out] at HZq
                rw [HGR.out] at HRq
                exact ZInv.mk _ (k + 1) n t i s t i s (by omega) hlt HT.out.1 (HAT.out.symm.trans HT.out.2.1) (HBT.out.symm.trans HT.out.2.2) HZq.out HRq.out HLq.out
              case measure => simp [intOf]; omega
            · have hd : decide ((0 : Int) < cb) = false := by simpa using hcb0
              have hbT : topZ (b1, b2, b3) (t, i, s) = (b1, b2, b3) := by unfold topZ; rw [if_neg ht, if_neg (by rintro (h | h); exact hb1 h; exact hcb0 (by rw [HCB.out]; exact h))]
              have HBT := Lib.hid hbT
              have HZq := Lib.hid BZn
              have HRq := Lib.hid BRn
              have HLq := Lib.hid Ln
              clear hbT BZn BRn BVn Ln
              go_wp2_with fail
              go_roundw
              case rel =>
                rw [HGZ.out] at HZq
                rw [HGR.out] at HRq
                exact ZInv.mk _ (k + 1) n t i s b1 b2 b3 (by omega) hlt HT.out.1 (HAT.out.symm.trans HT.out.2.1) (HBT.out.symm.trans HT.out.2.2) HZq.out HRq.out HLq.out
              case measure => simp [intOf]; omega
        · have z1 := BZ.cell 1 _ rfl
          have z2 := BZ.cell 2 _ rfl
          have z3 := BZ.cell 3 _ rfl
          have ha0 : (a1 == 0) = false := by simpa using ha1
          have HC := Lib.hid (fun w' => valCmp_any t i s a1 a2 a3 w')
          obtain ⟨ca, hca⟩ : ∃ c, c = cmpV t i s a1 a2 a3 := ⟨_, rfl⟩
          rw [← hca] at HC
          have HCA := Lib.hid hca
          have v0 := BV.cell 0 _ rfl
          have v1 := BV.cell 1 _ rfl
          have v2 := BV.cell 2 _ rfl
          have HZm := Lib.hid BZ
          have HRm := Lib.hid BR
          have HVm := Lib.hid BV
          have HLm := Lib.hid LW
          clear BZ BR BV LW hca
          go_wp2_with fail
          refine (HC.out _).mono ?_
          rintro e wn ⟨rfl, ln⟩
          have BZ := HZm.out.later ln
          have BR := HRm.out.later ln
          have BV := HVm.out.later ln
          have LW := HLm.out.trans ln
          clear z1 z2 z3 v0 v1 v2 HC HZm HRm HVm HLm ln c0 c1 c2 hw1
          by_cases hca0 : ca < 0
          · have hd : decide (ca < (0 : Int)) = true := by simpa using hca0
            have haT : lowZ (a1, a2, a3) (t, i, s) = (t, i, s) := by unfold lowZ; rw [if_neg ht, if_pos (.inr (show cmpV t i s a1 a2 a3 < 0 by rw [← HCA.out]; exact hca0))]
            have HAT := Lib.hid haT
            clear haT
            have v0 := BV.cell 0 _ rfl
            have v1 := BV.cell 1 _ rfl
            have v2 := BV.cell 2 _ rfl
            have z1 := BZ.cell 1 _ rfl
            have z2 := BZ.cell 2 _ rfl
            have z3 := BZ.cell 3 _ rfl
            have y1 := BZ.frozen 1
            have y2 := BZ.frozen 2
            have y3 := BZ.frozen 3
            have BZm := zc_min BZ t i s
            have BRm := three_off BR hvr 1 2 3 (.int .i64 t) (.int .i64 i) (.string s)
            have BVm := three_off BV hvz 1 2 3 (.int .i64 t) (.int .i64 i) (.string s)
            have Lm := three_at LW hgz2 1 2 3 (.int .i64 t) (.int .i64 i) (.string s)
            obtain ⟨wm, hwm⟩ : ∃ x, (((wn.setCell ⟨gz, 1, none⟩ (.int .i64 t)).setCell ⟨gz, 2, none⟩ (.int .i64 i)).setCell ⟨gz, 3, none⟩ (.string s)) = x := ⟨_, rfl⟩
            rw [hwm] at BZm BRm BVm Lm
            clear BZ BR BV LW
            by_cases hb1 : b1 = 0
            · subst hb1
              have BZn := BZm
              have BRn := BRm
              have BVn := BVm
              have Ln := Lm
              have hbT : topZ (0, b2, b3) (t, i, s) = (t, i, s) := by unfold topZ; rw [if_neg ht, if_pos (.inl rfl)]
              have HBT := Lib.hid hbT
              clear BZm BRm BVm Lm hbT
              have v0 := BVn.cell 0 _ rfl
              have v1 := BVn.cell 1 _ rfl
              have v2 := BVn.cell 2 _ rfl
              have z4 := BZn.cell 4 _ rfl
              have z5 := BZn.cell 5 _ rfl
              have z6 := BZn.cell 6 _ rfl
              have y4 := BZn.frozen 4
              have y5 := BZn.frozen 5
              have y6 := BZn.frozen 6
              have HZq := Lib.hid (zc_max BZn t i s)
              have HRq := Lib.hid (three_off BRn hvr 4 5 6 (.int .i64 t) (.int .i64 i) (.string s))
              have HLq := Lib.hid (three_at Ln hgz2 4 5 6 (.int .i64 t) (.int .i64 i) (.string s))
              obtain ⟨wq, hwq⟩ : ∃ x, (((wm.setCell ⟨gz, 4, none⟩ (.int .i64 t)).setCell ⟨gz, 5, none⟩ (.int .i64 i)).setCell ⟨gz, 6, none⟩ (.string s)) = x := ⟨_, rfl⟩
              rw [hwq] at HZq HRq HLq
              clear BZn BRn BVn Ln
              go_wp2_with fail
              go_roundw
              case rel =>
                rw [HGZ.out] at HZq
                rw [HGR.out] at HRq
                exact ZInv.mk _ (k + 1) n t i s t i s (by omega) hlt HT.out.1 (HAT.out.symm.trans HT.out.2.1) (HBT.out.symm.trans HT.out.2.2) HZq.out HRq.out HLq.out
              case measure => simp [intOf]; omega
            · have z4 := BZm.cell 4 _ rfl
              have z5 := BZm.cell 5 _ rfl
              have z6 := BZm.cell 6 _ rfl
              have v0 := BVm.cell 0 _ rfl
              have v1 := BVm.cell 1 _ rfl
              have v2 := BVm.cell 2 _ rfl
              have hb0 : (b1 == 0) = false := by simpa using hb1
              have HC := Lib.hid (valCmp_any t i s b1 b2 b3 wm)
              obtain ⟨cb, hcb⟩ : ∃ c, c = cmpV t i s b1 b2 b3 := ⟨_, rfl⟩
              rw [← hcb] at HC
              have HCB := Lib.hid hcb
              have HZm := Lib.hid BZm
              have HRm := Lib.hid BRm
              have HVm := Lib.hid BVm
              have HLm := Lib.hid Lm
              clear BZm BRm BVm Lm hcb
              go_wp2_with fail
              refine HC.out.mono ?_
              rintro e wn2 ⟨rfl, ln⟩
              have BZn := HZm.out.later ln
              have BRn := HRm.out.later ln
              have BVn := HVm.out.later ln
              have Ln := HLm.out.trans ln
              clear z4 z5 z6 v0 v1 v2 HC HZm HRm HVm HLm ln
              by_cases hcb0 : 0 < cb
              · have hd : decide ((0 : Int) < cb) = true := by simpa using hcb0
                have hbT : topZ (b1, b2, b3) (t, i, s) = (t, i, s) := by unfold topZ; rw [if_neg ht, if_pos (.inr (show 0 < cmpV t i s b1 b2 b3 by rw [← HCB.out]; exact hcb0))]
                have HBT := Lib.hid hbT
                clear hbT
                have v0 := BVn.cell 0 _ rfl
                have v1 := BVn.cell 1 _ rfl
                have v2 := BVn.cell 2 _ rfl
                have z4 := BZn.cell 4 _ rfl
                have z5 := BZn.cell 5 _ rfl
                have z6 := BZn.cell 6 _ rfl
                have y4 := BZn.frozen 4
                have y5 := BZn.frozen 5
                have y6 := BZn.frozen 6
                have HZq := Lib.hid (zc_max BZn t i s)
                have HRq := Lib.hid (three_off BRn hvr 4 5 6 (.int .i64 t) (.int .i64 i) (.string s))
                have HLq := Lib.hid (three_at Ln hgz2 4 5 6 (.int .i64 t) (.int .i64 i) (.string s))
                obtain ⟨wq, hwq⟩ : ∃ x, (((wn2.setCell ⟨gz, 4, none⟩ (.int .i64 t)).setCell ⟨gz, 5, none⟩ (.int .i64 i)).setCell ⟨gz, 6, none⟩ (.string s)) = x := ⟨_, rfl⟩
                rw [hwq] at HZq HRq HLq
                clear BZn BRn BVn Ln
                go_wp2_with fail
                go_roundw
                case rel =>
                  rw [HGZ.out] at HZq
                  rw [HGR.out] at HRq
                  exact ZInv.mk _ (k + 1) n t i s t i s (by omega) hlt HT.out.1 (HAT.out.symm.trans HT.out.2.1) (HBT.out.symm.trans HT.out.2.2) HZq.out HRq.out HLq.out
                case measure => simp [intOf]; omega
              · have hd : decide ((0 : Int) < cb) = false := by simpa using hcb0
                have hbT : topZ (b1, b2, b3) (t, i, s) = (b1, b2, b3) := by unfold topZ; rw [if_neg ht, if_neg (by rintro (h | h); exact hb1 h; exact hcb0 (by rw [HCB.out]; exact h))]
                have HBT := Lib.hid hbT
                have HZq := Lib.hid BZn
                have HRq := Lib.hid BRn
                have HLq := Lib.hid Ln
                clear hbT BZn BRn BVn Ln
                go_wp2_with fail
                go_roundw
                case rel =>
                  rw [HGZ.out] at HZq
                  rw [HGR.out] at HRq
                  exact ZInv.mk _ (k + 1) n t i s b1 b2 b3 (by omega) hlt HT.out.1 (HAT.out.symm.trans HT.out.2.1) (HBT.out.symm.trans HT.out.2.2) HZq.out HRq.out HLq.out
                case measure => simp [intOf]; omega
          · have hd : decide (ca < (0 : Int)) = false := by simpa using hca0
            have haT : lowZ (a1, a2, a3) (t, i, s) = (a1, a2, a3) := by unfold lowZ; rw [if_neg ht, if_neg (by rintro (h | h); exact ha1 h; exact hca0 (by rw [HCA.out]; exact h))]
            have HAT := Lib.hid haT
            have BZm := BZ
            have BRm := BR
            have BVm := BV
            have Lm := LW
            clear haT BZ BR BV LW
            obtain ⟨wm, hwm⟩ : ∃ x, x = wn := ⟨_, rfl⟩
            rw [← hwm] at BZm BRm BVm Lm ⊢
            clear hwm
            by_cases hb1 : b1 = 0
            · subst hb1
              have BZn := BZm
              have BRn := BRm
              have BVn := BVm
              have Ln := Lm
              have hbT : topZ (0, b2, b3) (t, i, s) = (t, i, s) := by unfold topZ; rw [if_neg ht, if_pos (.inl rfl)]
              have HBT := Lib.hid hbT
              clear BZm BRm BVm Lm hbT
              have v0 := BVn.cell 0 _ rfl
              have v1 := BVn.cell 1 _ rfl
              have v2 := BVn.cell 2 _ rfl
              have z4 := BZn.cell 4 _ rfl
              have z5 := BZn.cell 5 _ rfl
              have z6 := BZn.cell 6 _ rfl
              have y4 := BZn.frozen 4
              have y5 := BZn.frozen 5
              have y6 := BZn.frozen 6
              have HZq := Lib.hid (zc_max BZn t i s)
              have HRq := Lib.hid (three_off BRn hvr 4 5 6 (.int .i64 t) (.int .i64 i) (.string s))
              have HLq := Lib.hid (three_at Ln hgz2 4 5 6 (.int .i64 t) (.int .i64 i) (.string s))
              obtain ⟨wq, hwq⟩ : ∃ x, (((wm.setCell ⟨gz, 4, none⟩ (.int .i64 t)).setCell ⟨gz, 5, none⟩ (.int .i64 i)).setCell ⟨gz, 6, none⟩ (.string s)) = x := ⟨_, rfl⟩
              rw [hwq] at HZq HRq HLq
              clear BZn BRn BVn Ln
              go_wp2_with fail
              go_roundw
              case rel =>
                rw [HGZ.out] at HZq
                rw [HGR.out] at HRq
                exact ZInv.mk _ (k + 1) n a1 a2 a3 t i s (by omega) hlt HT.out.1 (HAT.out.symm.trans HT.out.2.1) (HBT.out.symm.trans HT.out.2.2) HZq.out HRq.out HLq.out
              case measure => simp [intOf]; omega
            · have z4 := BZm.cell 4 _ rfl
              have z5 := BZm.cell 5 _ rfl
              have z6 := BZm.cell 6 _ rfl
              have v0 := BVm.cell 0 _ rfl
              have v1 := BVm.cell 1 _ rfl
              have v2 := BVm.cell 2 _ rfl
              have hb0 : (b1 == 0) = false := by simpa using hb1
              have HC := Lib.hid (valCmp_any t i s b1 b2 b3 wm)
              obtain ⟨cb, hcb⟩ : ∃ c, c = cmpV t i s b1 b2 b3 := ⟨_, rfl⟩
              rw [← hcb] at HC
              have HCB := Lib.hid hcb
              have HZm := Lib.hid BZm
              have HRm := Lib.hid BRm
              have HVm := Lib.hid BVm
              have HLm := Lib.hid Lm
              clear BZm BRm BVm Lm hcb
              go_wp2_with fail
              refine HC.out.mono ?_
              rintro e wn2 ⟨rfl, ln⟩
              have BZn := HZm.out.later ln
              have BRn := HRm.out.later ln
              have BVn := HVm.out.later ln
              have Ln := HLm.out.trans ln
              clear z4 z5 z6 v0 v1 v2 HC HZm HRm HVm HLm ln
              by_cases hcb0 : 0 < cb
              · have hd : decide ((0 : Int) < cb) = true := by simpa using hcb0
                have hbT : topZ (b1, b2, b3) (t, i, s) = (t, i, s) := by unfold topZ; rw [if_neg ht, if_pos (.inr (show 0 < cmpV t i s b1 b2 b3 by rw [← HCB.out]; exact hcb0))]
                have HBT := Lib.hid hbT
                clear hbT
                have v0 := BVn.cell 0 _ rfl
                have v1 := BVn.cell 1 _ rfl
                have v2 := BVn.cell 2 _ rfl
                have z4 := BZn.cell 4 _ rfl
                have z5 := BZn.cell 5 _ rfl
                have z6 := BZn.cell 6 _ rfl
                have y4 := BZn.frozen 4
                have y5 := BZn.frozen 5
                have y6 := BZn.frozen 6
                have HZq := Lib.hid (zc_max BZn t i s)
                have HRq := Lib.hid (three_off BRn hvr 4 5 6 (.int .i64 t) (.int .i64 i) (.string s))
                have HLq := Lib.hid (three_at Ln hgz2 4 5 6 (.int .i64 t) (.int .i64 i) (.string s))
                obtain ⟨wq, hwq⟩ : ∃ x, (((wn2.setCell ⟨gz, 4, none⟩ (.int .i64 t)).setCell ⟨gz, 5, none⟩ (.int .i64 i)).setCell ⟨gz, 6, none⟩ (.string s)) = x := ⟨_, rfl⟩
                rw [hwq] at HZq HRq HLq
                clear BZn BRn BVn Ln
                go_wp2_with fail
                go_roundw
                case rel =>
                  rw [HGZ.out] at HZq
                  rw [HGR.out] at HRq
                  exact ZInv.mk _ (k + 1) n a1 a2 a3 t i s (by omega) hlt HT.out.1 (HAT.out.symm.trans HT.out.2.1) (HBT.out.symm.trans HT.out.2.2) HZq.out HRq.out HLq.out
                case measure => simp [intOf]; omega
              · have hd : decide ((0 : Int) < cb) = false := by simpa using hcb0
                have hbT : topZ (b1, b2, b3) (t, i, s) = (b1, b2, b3) := by unfold topZ; rw [if_neg ht, if_neg (by rintro (h | h); exact hb1 h; exact hcb0 (by rw [HCB.out]; exact h))]
                have HBT := Lib.hid hbT
                have HZq := Lib.hid BZn
                have HRq := Lib.hid BRn
                have HLq := Lib.hid Ln
                clear hbT BZn BRn BVn Ln
                go_wp2_with fail
                go_roundw
                case rel =>
                  rw [HGZ.out] at HZq
                  rw [HGR.out] at HRq
                  exact ZInv.mk _ (k + 1) n a1 a2 a3 b1 b2 b3 (by omega) hlt HT.out.1 (HAT.out.symm.trans HT.out.2.1) (HBT.out.symm.trans HT.out.2.2) HZq.out HRq.out HLq.out
                case measure => simp [intOf]; omega
    · have hE : l.take k = l := List.take_of_length_le (by omega)
      rw [hE] at HN HA HB
      have z0 := BZ.cell 0 _ rfl
      have z1 := BZ.cell 1 _ rfl
      have z2 := BZ.cell 2 _ rfl
      have z3 := BZ.cell 3 _ rfl
      have z4 := BZ.cell 4 _ rfl
      have z5 := BZ.cell 5 _ rfl
      have z6 := BZ.cell 6 _ rfl
      have x0 := BR.cell 0 _ rfl
      have x1 := BR.cell 1 _ rfl
      have x2 := BR.cell 2 _ rfl
      have x3 := BR.cell 3 _ rfl
      have x4 := BR.cell 4 _ rfl
      have x5 := BR.cell 5 _ rfl
      have x6 := BR.cell 6 _ rfl
      have y0 := BR.frozen 0
      have y1 := BR.frozen 1
      have y2 := BR.frozen 2
      have y3 := BR.frozen 3
      have y4 := BR.frozen 4
      have y5 := BR.frozen 5
      have y6 := BR.frozen 6
      have HRN := Lib.hid (zc_max (zc_min (zc_null BR n) a1 a2 a3) b1 b2 b3)
      have hgr9 : w.heap.size ≤ gr := by rw [HGR.out]; exact Nat.le_refl _
      have HLN := Lib.hid (three_at (g := gr) (three_at (g := gr) (HLAT.out.set_ (p := ⟨gr, 0, none⟩) hgr9 (.int .i64 n)) hgr9 1 2 3 (.int .i64 a1) (.int .i64 a2) (.string a3)) hgr9 4 5 6 (.int .i64 b1) (.int .i64 b2) (.string b3))
      clear BZ BR lat hE
      go_wp2_with fail
      obtain ⟨wf, hwf⟩ : ∃ x, x = (((((((wr.setCell ⟨gr, 0, none⟩ (.int .i64 n)).setCell ⟨gr, 1, none⟩ (.int .i64 a1)).setCell ⟨gr, 2, none⟩ (.int .i64 a2)).setCell ⟨gr, 3, none⟩ (.string a3)).setCell ⟨gr, 4, none⟩ (.int .i64 b1)).setCell ⟨gr, 5, none⟩ (.int .i64 b2)).setCell ⟨gr, 6, none⟩ (.string b3)) := ⟨_, rfl⟩
      rw [← hwf] at HRN HLN ⊢
      have r0 := HRN.out.cell 0 _ rfl
      have r1 := HRN.out.cell 1 _ rfl
      have r2 := HRN.out.cell 2 _ rfl
      have r3 := HRN.out.cell 3 _ rfl
      have r4 := HRN.out.cell 4 _ rfl
      have r5 := HRN.out.cell 5 _ rfl
      have r6 := HRN.out.cell 6 _ rfl
      clear z0 z1 z2 z3 z4 z5 z6 x0 x1 x2 x3 x4 x5 x6 y0 y1 y2 y3 y4 y5 y6 hwf
      refine bodyPost_ret (v := .agg #[.int .i64 n, .int .i64 a1, .int .i64 a2, .string a3, .int .i64 b1, .int .i64 b2, .string b3]) (by simp [results, Tryd.results7, go_sem, r0, r1, r2, r3, r4, r5, r6]) rfl ⟨?_, HLN.out⟩
      have e1 : zagg n (a1, a2, a3) (b1, b2, b3) = zagg (nullsZ l) (lowZs none3 l) (topZs none3 l) := by rw [HA.out, HB.out, HN.out]
      exact congrArg Ending.returned e1

set_option maxRecDepth 100000 in
theorem between_any (op lo hi : Int) (w : World) (h1 : lo = -1 ∨ lo = 0 ∨ lo = 1) (h2 : hi = -1 ∨ hi = 0 ∨ hi = 1) :
    Calls Tryd.prog 20 #[.int .i64 op, .int .i64 lo, .int .i64 hi] w fun e w' => e = .returned (.bool (between op lo hi)) ∧ w = w' := by
  by_cases ho : op = 1 ∨ op = 2
  · rcases ho with rfl | rfl
    all_goals rcases h1 with rfl | rfl | rfl
    all_goals rcases h2 with rfl | rfl | rfl
    all_goals go_enter Tryd.func20, Tryd.ntmps20
    all_goals go_wp2_with fail
    all_goals go_ret
    all_goals exact ⟨rfl, rfl⟩
  · by_cases hp : op = 3 ∨ op = 4
    · clear ho
      rcases hp with rfl | rfl
      all_goals rcases h1 with rfl | rfl | rfl
      all_goals go_enter Tryd.func20, Tryd.ntmps20
      all_goals go_wp2_with fail
      all_goals go_ret
      all_goals exact ⟨rfl, rfl⟩
    · by_cases hq : op = 5 ∨ op = 6
      · clear ho hp
        rcases hq with rfl | rfl
        all_goals rcases h2 with rfl | rfl | rfl
        all_goals go_enter Tryd.func20, Tryd.ntmps20
        all_goals go_wp2_with fail
        all_goals go_ret
        all_goals exact ⟨rfl, rfl⟩
      · have e1 : (op == 1) = false := by rw [beq_eq_false_iff_ne]; omega
        have e2 : (op == 2) = false := by rw [beq_eq_false_iff_ne]; omega
        have e3 : (op == 3) = false := by rw [beq_eq_false_iff_ne]; omega
        have e4 : (op == 4) = false := by rw [beq_eq_false_iff_ne]; omega
        have e5 : (op == 5) = false := by rw [beq_eq_false_iff_ne]; omega
        have e6 : (op == 6) = false := by rw [beq_eq_false_iff_ne]; omega
        have hb : between op lo hi = false := by
          unfold between
          rw [if_neg (by omega), if_neg (by omega), if_neg (by omega), if_neg (by omega), if_neg (by omega), if_neg (by omega)]
        have HB := Lib.hid hb
        clear ho hp hq h1 h2 hb
        go_enter Tryd.func20, Tryd.ntmps20
        go_wp2_with fail
        go_ret
        rw [HB.out]
        exact ⟨rfl, rfl⟩

set_option maxRecDepth 100000 in
set_option maxHeartbeats 2000000 in
theorem zoneCan_c (nl n op a1 a2 : Int) (a3 : ByteArray) (b1 b2 : Int) (b3 : ByteArray) (v1 v2 : Int) (v3' : ByteArray) (w : World) :
    Calls Tryd.prog 11 #[.agg #[.int .i64 nl, .int .i64 a1, .int .i64 a2, .string a3, .int .i64 b1, .int .i64 b2, .string b3], .int .i64 n, .int .i64 op, .agg #[.int .i64 v1, .int .i64 v2, .string v3']] w fun e w' => e = .returned (.bool (canZ nl (a1, a2, a3) (b1, b2, b3) n op (v1, v2, v3'))) ∧ Later w w' := by
  obtain ⟨gz, hgz⟩ : ∃ g, w.heap.size = g := ⟨_, rfl⟩
  obtain ⟨w1, hw1⟩ : ∃ x : World, (w.alloc (.cells (zc nl a1 a2 a3 b1 b2 b3) 31)).alloc (.cells #[.int .i64 v1, .int .i64 v2, .string v3'] 28) = x := ⟨_, rfl⟩
  have BZ := (Blk.new w (zc nl a1 a2 a3 b1 b2 b3) 31 gz hgz.symm).later (Later.new _ (.cells #[.int .i64 v1, .int .i64 v2, .string v3'] 28))
  have BV := Blk.new (w.alloc (.cells (zc nl a1 a2 a3 b1 b2 b3) 31)) #[.int .i64 v1, .int .i64 v2, .string v3'] 28 (gz + 1) (by simp [hgz])
  have L1 := (Later.new w (.cells (zc nl a1 a2 a3 b1 b2 b3) 31)).alloc (.cells #[.int .i64 v1, .int .i64 v2, .string v3'] 28)
  rw [hw1] at BZ BV L1
  have HL1 := Lib.hid L1
  have HBZ := Lib.hid BZ
  have HBV := Lib.hid BV
  have z0 := BZ.cell 0 _ rfl
  have z1 := BZ.cell 1 _ rfl
  have x0 := BV.cell 0 _ rfl
  clear L1 BZ BV
  by_cases h7 : op = 7
  · subst h7
    have hc : canZ nl (a1, a2, a3) (b1, b2, b3) n 7 (v1, v2, v3') = decide (0 < nl) := rfl
    have HC := Lib.hid hc
    clear hc
    go_enter Tryd.func11, Tryd.ntmps11
    go_wp2_with fail
    go_ret
    rw [HC.out]
    exact ⟨rfl, HL1.out⟩
  · by_cases h8 : op = 8
    · subst h8
      have hc : canZ nl (a1, a2, a3) (b1, b2, b3) n 8 (v1, v2, v3') = decide (nl < n) := rfl
      have HC := Lib.hid hc
      clear hc h7
      go_enter Tryd.func11, Tryd.ntmps11
      go_wp2_with fail
      go_ret
      rw [HC.out]
      exact ⟨rfl, HL1.out⟩
    · have e7 : (op == 7) = false := by simpa using h7
      have e8 : (op == 8) = false := by simpa using h8
      have hc : canZ nl (a1, a2, a3) (b1, b2, b3) n op (v1, v2, v3') = if v1 = 0 ∨ a1 = 0 then false else between op (cmp3 (a1, a2, a3) (v1, v2, v3')) (cmp3 (b1, b2, b3) (v1, v2, v3')) := by
        unfold canZ; rw [if_neg h7, if_neg h8]
      by_cases hv : v1 = 0
      · rw [if_pos (.inl hv)] at hc
        subst hv
        have HC := Lib.hid hc
        clear hc h7 h8
        go_enter Tryd.func11, Tryd.ntmps11
        go_wp2_with fail
        go_ret
        rw [HC.out]
        exact ⟨rfl, HL1.out⟩
      · by_cases ha : a1 = 0
        · rw [if_pos (.inr ha)] at hc
          subst ha
          have e0 : (v1 == 0) = false := by simpa using hv
          have HC := Lib.hid hc
          clear hc h7 h8 hv
          go_enter Tryd.func11, Tryd.ntmps11
          go_wp2_with fail
          go_ret
          rw [HC.out]
          exact ⟨rfl, HL1.out⟩
        · rw [if_neg (by rintro (h | h); exact hv h; exact ha h)] at hc
          have e0 : (v1 == 0) = false := by simpa using hv
          have e1 : (a1 == 0) = false := by simpa using ha
          have i1 := cmpV_in a1 a2 a3 v1 v2 v3'
          have i2 := cmpV_in b1 b2 b3 v1 v2 v3'
          have HBT := Lib.hid (fun w' => between_any op (cmpV a1 a2 a3 v1 v2 v3') (cmpV b1 b2 b3 v1 v2 v3') w' i1 i2)
          have HC := Lib.hid hc
          have d0 := HBZ.out.drew
          have d1 := HBV.out.drew
          have lz := HL1.out.drew
          clear hc h7 h8 hv ha i1 i2
          go_enter Tryd.func11, Tryd.ntmps11
          go_wp2_with fail
          clear z0 z1 x0 hw1
          go_region_held3 (fun w' => w'.cell? ⟨gz, 1, none⟩ = some (.int .i64 a1) ∧ w'.cell? ⟨gz, 2, none⟩ = some (.int .i64 a2) ∧ w'.cell? ⟨gz, 3, none⟩ = some (.string a3) ∧ w'.cell? ⟨gz, 4, none⟩ = some (.int .i64 b1) ∧ w'.cell? ⟨gz, 5, none⟩ = some (.int .i64 b2) ∧ w'.cell? ⟨gz, 6, none⟩ = some (.string b3) ∧ w'.cell? ⟨gz + 1, 0, none⟩ = some (.int .i64 v1) ∧ w'.cell? ⟨gz + 1, 1, none⟩ = some (.int .i64 v2) ∧ w'.cell? ⟨gz + 1, 2, none⟩ = some (.string v3')) (exact ⟨d0.cell 1 _ rfl, d0.cell 2 _ rfl, d0.cell 3 _ rfl, d0.cell 4 _ rfl, d0.cell 5 _ rfl, d0.cell 6 _ rfl, d1.cell 0 _ rfl, d1.cell 1 _ rfl, d1.cell 2 _ rfl⟩) (first
            | (go_at_call 14; refine (valCmp_any _ _ _ _ _ _ _).mono ?_; rintro e wX ⟨rfl, lX⟩; have lz := lz.trans lX; have d0 := d0.later lX; have d1 := d1.later lX; clear lX)
            | (go_at_call 20; refine (HBT.out _).mono ?_; rintro e wX ⟨rfl, rfl⟩))
          all_goals go_wp2_with fail
          all_goals go_ret
          all_goals rw [HC.out]
          all_goals unfold cmp3
          all_goals exact ⟨rfl, lz⟩
theorem zoneCan_any (nl n op : Int) (a b v : Val3) (w : World) :
    Calls Tryd.prog 11 #[zagg nl a b, .int .i64 n, .int .i64 op, v3 v] w fun e w' => e = .returned (.bool (canZ nl a b n op v)) ∧ Later w w' :=
  zoneCan_c nl n op a.1 a.2.1 a.2.2 b.1 b.2.1 b.2.2 v.1 v.2.1 v.2.2 w
end Go.Proofs.YtjphfdjijmpicaaDoor
