/- The walks of package zone: Of, Can, Same. -/
import Derived.Test.YteiabachilpciaaDoorZoneM
import Derived.Test.YteiabachilpciaaDoorRCmp
import Derived.Test.YteiabachilpciaaDoorCell
import Derived.Deep.RegionHeld3
namespace Go.Proofs.YteiabachilpciaaDoor
open Go.RowKit
set_option linter.unusedVariables false

abbrev v3 (x : Val3) : Value := vagg x.1 x.2.1 x.2.2
abbrev zagg (n : Int) (a b : Val3) : Value := .agg #[.int .i64 n, .int .i64 a.1, .int .i64 a.2.1, .string a.2.2, .int .i64 b.1, .int .i64 b.2.1, .string b.2.2]
abbrev zc (n a1 a2 : Int) (a3 : ByteArray) (b1 b2 : Int) (b3 : ByteArray) : Array Value := #[.int .i64 n, .int .i64 a1, .int .i64 a2, .string a3, .int .i64 b1, .int .i64 b2, .string b3]
section
variable {w : World} {g : Nat} {t : TypeId} {n a1 a2 : Int} {a3 : ByteArray} {b1 b2 : Int} {b3 : ByteArray}
theorem zc_null (h : Blk w g (zc n a1 a2 a3 b1 b2 b3) t) (m : Int) : Blk (w.setCell ⟨g, 0, none⟩ (.int .i64 m)) g (zc m a1 a2 a3 b1 b2 b3) t := h.set_ 0 _
theorem zc_min (h : Blk w g (zc n a1 a2 a3 b1 b2 b3) t) (x y : Int) (z : ByteArray) : Blk (((w.setCell ⟨g, 1, none⟩ (.int .i64 x)).setCell ⟨g, 2, none⟩ (.int .i64 y)).setCell ⟨g, 3, none⟩ (.string z)) g (zc n x y z b1 b2 b3) t := ((h.set_ 1 _).set_ 2 _).set_ 3 _
theorem zc_max (h : Blk w g (zc n a1 a2 a3 b1 b2 b3) t) (x y : Int) (z : ByteArray) : Blk (((w.setCell ⟨g, 4, none⟩ (.int .i64 x)).setCell ⟨g, 5, none⟩ (.int .i64 y)).setCell ⟨g, 6, none⟩ (.string z)) g (zc n a1 a2 a3 x y z) t := ((h.set_ 4 _).set_ 5 _).set_ 6 _
end
theorem three_at {w w' : World} {g : Nat} (h : Later w w') (hg : w.heap.size ≤ g) (i j k : Nat) (x y z : Value) : Later w (((w'.setCell ⟨g, i, none⟩ x).setCell ⟨g, j, none⟩ y).setCell ⟨g, k, none⟩ z) := ((h.set_ hg _).set_ hg _).set_ hg _
theorem three_off {w : World} {g v : Nat} {cs : Array Value} {t : TypeId} (h : Blk w v cs t) (hne : v ≠ g) (i j k : Nat) (x y z : Value) : Blk (((w.setCell ⟨g, i, none⟩ x).setCell ⟨g, j, none⟩ y).setCell ⟨g, k, none⟩ z) v cs t := ((h.far hne _).far hne _).far hne _

/-- The zone on its way: of the first k values. -/
def ZInv (l : List Val3) (w : World) (iv : Value) (wr : World) : Prop :=
  ∃ (k : Nat) (n a1 a2 : Int) (a3 : ByteArray) (b1 b2 : Int) (b3 : ByteArray), iv = .int .i64 k ∧ k ≤ l.length ∧ n = (nullsZ (l.take k) : Int) ∧ (a1, a2, a3) = lowZs none3 (l.take k) ∧ (b1, b2, b3) = topZs none3 (l.take k) ∧
    Blk wr (w.heap.size + 1) (zc n a1 a2 a3 b1 b2 b3) 50 ∧ Blk wr w.heap.size (zc 0 0 0 ⟨#[]⟩ 0 0 ⟨#[]⟩) 50 ∧ Later w wr
theorem ZInv.mk {l : List Val3} {w wr : World} (i : Int) (k : Nat) (n a1 a2 : Int) (a3 : ByteArray) (b1 b2 : Int) (b3 : ByteArray) (hi : i = (k : Int)) (hk : k ≤ l.length) (hn : n = (nullsZ (l.take k) : Int)) (ha : (a1, a2, a3) = lowZs none3 (l.take k)) (hb : (b1, b2, b3) = topZs none3 (l.take k))
    (B : Blk wr (w.heap.size + 1) (zc n a1 a2 a3 b1 b2 b3) 50) (R : Blk wr w.heap.size (zc 0 0 0 ⟨#[]⟩ 0 0 ⟨#[]⟩) 50) (L : Later w wr) : ZInv l w (.int .i64 i) wr := by
  subst hi
  exact ⟨k, n, a1, a2, a3, b1, b2, b3, rfl, hk, hn, ha, hb, B, R, L⟩
theorem zstep_null {l : List Val3} {k : Nat} (hk : k < l.length) (h : l[k].1 = 0) {n : Int} (hn : n = (nullsZ (l.take k) : Int)) {a b : Val3} (ha : a = lowZs none3 (l.take k)) (hb : b = topZs none3 (l.take k)) :
    n + 1 = (nullsZ (l.take (k + 1)) : Int) ∧ a = lowZs none3 (l.take (k + 1)) ∧ b = topZs none3 (l.take (k + 1)) := by
  rw [List.take_succ_eq_append_getElem hk, nullsZ_snoc, lowZs_snoc, topZs_snoc, ← ha, ← hb, if_pos h]
  unfold lowZ topZ
  rw [if_pos h, if_pos h]
  exact ⟨by omega, rfl, rfl⟩
theorem zstep_some {l : List Val3} {k : Nat} (hk : k < l.length) (h : l[k].1 ≠ 0) {n : Int} (hn : n = (nullsZ (l.take k) : Int)) {a b : Val3} (ha : a = lowZs none3 (l.take k)) (hb : b = topZs none3 (l.take k)) :
    n = (nullsZ (l.take (k + 1)) : Int) ∧ lowZ a l[k] = lowZs none3 (l.take (k + 1)) ∧ topZ b l[k] = topZs none3 (l.take (k + 1)) := by
  rw [List.take_succ_eq_append_getElem hk, nullsZ_snoc, lowZs_snoc, topZs_snoc, ← ha, ← hb, if_neg h]
  exact ⟨by omega, rfl, rfl⟩

set_option maxRecDepth 100000 in
theorem between_any (op lo hi : Int) (w : World) (h1 : lo = -1 ∨ lo = 0 ∨ lo = 1) (h2 : hi = -1 ∨ hi = 0 ∨ hi = 1) :
    Calls Tryd.prog 57 #[.int .i64 op, .int .i64 lo, .int .i64 hi] w fun e w' => e = .returned (.bool (between op lo hi)) ∧ w = w' := by
  by_cases ho : op = 1 ∨ op = 2
  · rcases ho with rfl | rfl
    all_goals rcases h1 with rfl | rfl | rfl
    all_goals rcases h2 with rfl | rfl | rfl
    all_goals go_enter Tryd.func57, Tryd.ntmps57
    all_goals go_wp2_with fail
    all_goals go_ret
    all_goals exact ⟨rfl, rfl⟩
  · by_cases hp : op = 3 ∨ op = 4
    · clear ho
      rcases hp with rfl | rfl
      all_goals rcases h1 with rfl | rfl | rfl
      all_goals go_enter Tryd.func57, Tryd.ntmps57
      all_goals go_wp2_with fail
      all_goals go_ret
      all_goals exact ⟨rfl, rfl⟩
    · by_cases hq : op = 5 ∨ op = 6
      · clear ho hp
        rcases hq with rfl | rfl
        all_goals rcases h2 with rfl | rfl | rfl
        all_goals go_enter Tryd.func57, Tryd.ntmps57
        all_goals go_wp2_with fail
        all_goals go_ret
        all_goals exact ⟨rfl, rfl⟩
      · have e1 : (op == 1) = false := by rw [beq_eq_false_iff_ne]; omega
        have e2 : (op == 2) = false := by rw [beq_eq_false_iff_ne]; omega
        have e3 : (op == 3) = false := by rw [beq_eq_false_iff_ne]; omega
        have e4 : (op == 4) = false := by rw [beq_eq_false_iff_ne]; omega
        have e5 : (op == 5) = false := by rw [beq_eq_false_iff_ne]; omega
        have e6 : (op == 6) = false := by rw [beq_eq_false_iff_ne]; omega
        have hb : between op lo hi = false := by
          unfold between
          rw [if_neg (by omega), if_neg (by omega), if_neg (by omega), if_neg (by omega), if_neg (by omega), if_neg (by omega)]
        have HB := Lib.hid hb
        clear ho hp hq h1 h2 hb
        go_enter Tryd.func57, Tryd.ntmps57
        go_wp2_with fail
        go_ret
        rw [HB.out]
        exact ⟨rfl, rfl⟩

set_option maxRecDepth 100000 in
set_option maxHeartbeats 2000000 in
theorem zoneCan_c (nl n op a1 a2 : Int) (a3 : ByteArray) (b1 b2 : Int) (b3 : ByteArray) (v1 v2 : Int) (v3' : ByteArray) (w : World) :
    Calls Tryd.prog 46 #[.agg #[.int .i64 nl, .int .i64 a1, .int .i64 a2, .string a3, .int .i64 b1, .int .i64 b2, .string b3], .int .i64 n, .int .i64 op, .agg #[.int .i64 v1, .int .i64 v2, .string v3']] w fun e w' => e = .returned (.bool (canZ nl (a1, a2, a3) (b1, b2, b3) n op (v1, v2, v3'))) ∧ Later w w' := by
  obtain ⟨gz, hgz⟩ : ∃ g, w.heap.size = g := ⟨_, rfl⟩
  obtain ⟨w1, hw1⟩ : ∃ x : World, (w.alloc (.cells (zc nl a1 a2 a3 b1 b2 b3) 50)).alloc (.cells #[.int .i64 v1, .int .i64 v2, .string v3'] 26) = x := ⟨_, rfl⟩
  have BZ := (Blk.new w (zc nl a1 a2 a3 b1 b2 b3) 50 gz hgz.symm).later (Later.new _ (.cells #[.int .i64 v1, .int .i64 v2, .string v3'] 26))
  have BV := Blk.new (w.alloc (.cells (zc nl a1 a2 a3 b1 b2 b3) 50)) #[.int .i64 v1, .int .i64 v2, .string v3'] 26 (gz + 1) (by simp [hgz])
  have L1 := (Later.new w (.cells (zc nl a1 a2 a3 b1 b2 b3) 50)).alloc (.cells #[.int .i64 v1, .int .i64 v2, .string v3'] 26)
  rw [hw1] at BZ BV L1
  have HL1 := Lib.hid L1
  have HBZ := Lib.hid BZ
  have HBV := Lib.hid BV
  have z0 := BZ.cell 0 _ rfl
  have z1 := BZ.cell 1 _ rfl
  have x0 := BV.cell 0 _ rfl
  clear L1 BZ BV
  by_cases h7 : op = 7
  · subst h7
    have hc : canZ nl (a1, a2, a3) (b1, b2, b3) n 7 (v1, v2, v3') = decide (0 < nl) := rfl
    have HC := Lib.hid hc
    clear hc
    go_enter Tryd.func46, Tryd.ntmps46
    go_wp2_with fail
    go_ret
    rw [HC.out]
    exact ⟨rfl, HL1.out⟩
  · by_cases h8 : op = 8
    · subst h8
      have hc : canZ nl (a1, a2, a3) (b1, b2, b3) n 8 (v1, v2, v3') = decide (nl < n) := rfl
      have HC := Lib.hid hc
      clear hc h7
      go_enter Tryd.func46, Tryd.ntmps46
      go_wp2_with fail
      go_ret
      rw [HC.out]
      exact ⟨rfl, HL1.out⟩
    · have e7 : (op == 7) = false := by simpa using h7
      have e8 : (op == 8) = false := by simpa using h8
      have hc : canZ nl (a1, a2, a3) (b1, b2, b3) n op (v1, v2, v3') = if v1 = 0 ∨ a1 = 0 then false else between op (cmp3 (a1, a2, a3) (v1, v2, v3')) (cmp3 (b1, b2, b3) (v1, v2, v3')) := by
        unfold canZ; rw [if_neg h7, if_neg h8]
      by_cases hv : v1 = 0
      · rw [if_pos (.inl hv)] at hc
        subst hv
        have HC := Lib.hid hc
        clear hc h7 h8
        go_enter Tryd.func46, Tryd.ntmps46
        go_wp2_with fail
        go_ret
        rw [HC.out]
        exact ⟨rfl, HL1.out⟩
      · by_cases ha : a1 = 0
        · rw [if_pos (.inr ha)] at hc
          subst ha
          have e0 : (v1 == 0) = false := by simpa using hv
          have HC := Lib.hid hc
          clear hc h7 h8 hv
          go_enter Tryd.func46, Tryd.ntmps46
          go_wp2_with fail
          go_ret
          rw [HC.out]
          exact ⟨rfl, HL1.out⟩
        · rw [if_neg (by rintro (h | h); exact hv h; exact ha h)] at hc
          have e0 : (v1 == 0) = false := by simpa using hv
          have e1 : (a1 == 0) = false := by simpa using ha
          have i1 := cmpV_in a1 a2 a3 v1 v2 v3'
          have i2 := cmpV_in b1 b2 b3 v1 v2 v3'
          have HBT := Lib.hid (fun w' => between_any op (cmpV a1 a2 a3 v1 v2 v3') (cmpV b1 b2 b3 v1 v2 v3') w' i1 i2)
          have HC := Lib.hid hc
          have d0 := HBZ.out.drew
          have d1 := HBV.out.drew
          have lz := HL1.out.drew
          clear hc h7 h8 hv ha i1 i2
          go_enter Tryd.func46, Tryd.ntmps46
          go_wp2_with fail
          clear z0 z1 x0 hw1
          go_region_held3 (fun w' => w'.cell? ⟨gz, 1, none⟩ = some (.int .i64 a1) ∧ w'.cell? ⟨gz, 2, none⟩ = some (.int .i64 a2) ∧ w'.cell? ⟨gz, 3, none⟩ = some (.string a3) ∧ w'.cell? ⟨gz, 4, none⟩ = some (.int .i64 b1) ∧ w'.cell? ⟨gz, 5, none⟩ = some (.int .i64 b2) ∧ w'.cell? ⟨gz, 6, none⟩ = some (.string b3) ∧ w'.cell? ⟨gz + 1, 0, none⟩ = some (.int .i64 v1) ∧ w'.cell? ⟨gz + 1, 1, none⟩ = some (.int .i64 v2) ∧ w'.cell? ⟨gz + 1, 2, none⟩ = some (.string v3')) (exact ⟨d0.cell 1 _ rfl, d0.cell 2 _ rfl, d0.cell 3 _ rfl, d0.cell 4 _ rfl, d0.cell 5 _ rfl, d0.cell 6 _ rfl, d1.cell 0 _ rfl, d1.cell 1 _ rfl, d1.cell 2 _ rfl⟩) (first
            | (go_at_call 56; refine (valCmp_any _ _ _ _ _ _ _).mono ?_; rintro e wX ⟨rfl, lX⟩; have lz := lz.trans lX; have d0 := d0.later lX; have d1 := d1.later lX; clear lX)
            | (go_at_call 57; refine (HBT.out _).mono ?_; rintro e wX ⟨rfl, rfl⟩))
          all_goals go_wp2_with fail
          all_goals go_ret
          all_goals rw [HC.out]
          all_goals unfold cmp3
          all_goals exact ⟨rfl, lz⟩
theorem zoneCan_any (nl n op : Int) (a b v : Val3) (w : World) :
    Calls Tryd.prog 46 #[zagg nl a b, .int .i64 n, .int .i64 op, v3 v] w fun e w' => e = .returned (.bool (canZ nl a b n op v)) ∧ Later w w' :=
  zoneCan_c nl n op a.1 a.2.1 a.2.2 b.1 b.2.1 b.2.2 v.1 v.2.1 v.2.2 w
end Go.Proofs.YteiabachilpciaaDoor
