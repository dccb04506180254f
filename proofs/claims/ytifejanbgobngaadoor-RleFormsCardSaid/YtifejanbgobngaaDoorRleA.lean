/- Walks of package rle: run, write, Put. -/
import Derived.Test.YtifejanbgobngaaDoorRleM
import Derived.Test.YtifejanbgobngaaDoorRCmp
import Derived.Test.YtifejanbgobngaaDoorPlainA
import Derived.Deep.RegionHeld3
namespace Go.Proofs.YtifejanbgobngaaDoor
open Go.RowKit
set_option linter.unusedVariables false

theorem ok_cmp {t : Int} (ht : 1 ≤ t ∧ t ≤ 4) {l : List Val3} (ho : OkL t l) {x y : Val3} (hx : x ∈ l) (hy : y ∈ l) : cmpV x.1 x.2.1 x.2.2 y.1 y.2.1 y.2.2 = 0 ↔ y = x := by
  obtain ⟨t1, i, s⟩ := x
  obtain ⟨t2, i', s'⟩ := y
  obtain ⟨h1, m1⟩ := ho _ hx
  obtain ⟨h2, m2⟩ := ho _ hy
  dsimp only at h1 h2 m1 m2 ⊢
  subst h1
  subst h2
  rw [cmpV_ok ht m1 m2]
  constructor
  · intro e; injection e with e1 e2; rw [e1, e2]
  · intro e; injection e with _ e; injection e with e1 e2; rw [e1, e2]

set_option maxRecDepth 100000 in
set_option maxHeartbeats 2000000 in
theorem rleRun_any (t : Int) (ht : 1 ≤ t ∧ t ≤ 4) (A : Option Addr) (c m : Nat) (l : List Val3) (x : Val3) (r : List Val3) (w : World) (he : l = x :: r) (hm : m = l.length) (hl : m ≤ 2000) (hr : Has w A (fl l)) (ho : OkL t l) :
    Calls Tryd.prog 59 #[.slice A m c] w fun e w' => e = .returned (.int .i64 ((runX x r + 1 : Nat) : Int)) ∧ Later w w' := by
  have hrl := runX_le x r
  have hml : m = r.length + 1 := by rw [hm, he]; rfl
  have HE := Lib.hid he
  have HM := Lib.hid hm
  have HML := Lib.hid hml
  obtain ⟨R, hR⟩ : ∃ R, R = runX x r := ⟨_, rfl⟩
  rw [← hR] at hrl ⊢
  have HR := Lib.hid hR
  have HHAS := Lib.hid hr
  have HOK := Lib.hid ho
  have hRm : R + 1 ≤ m := by omega
  clear hr ho he hm hR hml hrl
  go_enter Tryd.func59, Tryd.ntmps59
  go_wp2_with fail
  go_loopw [3] (fun iv wr => ∃ n : Nat, iv = .int .i64 n ∧ 1 ≤ n ∧ n ≤ R + 1 ∧ Later w wr) (fun iv _ => m - (intOf iv).toNat)
  case atStart => exact ⟨1, rfl, by omega, by omega, Later.refl _⟩
  case round =>
    obtain ⟨n, rfl, hn1, hnR, lat⟩ := hrel
    by_cases hlt : n < m
    · have hpos : 0 < l.length := by have := HM.out; omega
      have hnl : n < l.length := by have := HM.out; omega
      obtain ⟨b, off, hA, c0, c1, c2⟩ := (HHAS.out.later lat).val3 0 hpos
      obtain ⟨b', off', hA', d0, d1, d2⟩ := (HHAS.out.later lat).val3 n hnl
      subst hA
      obtain ⟨rfl, rfl⟩ : b = b' ∧ off = off' := by injection hA' with h; injection h with h1 h2; exact ⟨h1, h2⟩
      clear hA'
      have hx0 : l[0] = x := by have := HE.out; subst this; rfl
      have HZ := Lib.hid (ok_cmp ht HOK.out (List.getElem_mem hpos) (List.getElem_mem hnl))
      have HSTEP := Lib.hid (show l[n] = x ↔ n - 1 < R from by
        have e1 := HE.out
        have e2 := HR.out
        subst e1
        have h := runX_step (x := x) (l := r) (k := n - 1) (by omega) (by have := HML.out; omega)
        rw [← e2] at h
        rw [← h]
        have : (x :: r)[n] = r[n - 1]'(by have := HML.out; omega) := by
          obtain ⟨k, rfl⟩ : ∃ k, n = k + 1 := ⟨n - 1, by omega⟩
          rfl
        rw [this])
      rw [hx0] at c0 c1 c2 HZ
      have HCMP := Lib.hid (fun w' => valCmp_any x.1 x.2.1 x.2.2 l[n].1 l[n].2.1 l[n].2.2 w')
      rw [Nat.zero_mul, Nat.add_zero] at c0 c1 c2
      generalize l[n] = y at d0 d1 d2 HZ HSTEP HCMP
      obtain ⟨tx, ix, sx⟩ := x
      obtain ⟨ty, iy, sy⟩ := y
      dsimp only at c0 c1 c2 d0 d1 d2 HZ HCMP
      obtain ⟨z, hz⟩ : ∃ z, z = cmpV tx ix sx ty iy sy := ⟨_, rfl⟩
      rw [← hz] at HZ
      have HCMP := Lib.hid (fun w' => (HCMP.out w').mono fun e w'' (h : TellsInt _ _ _ _) => (show e = .returned (.int .i64 z) ∧ Later w' w'' from by rw [hz]; exact h))
      have e0 : CellIs wr ⟨b, off, none⟩ (.int .i64 tx) := c0
      have e1 : CellIs wr ⟨b, off + 1, none⟩ (.int .i64 ix) := c1
      have e2 : CellIs wr ⟨b, off + 2, none⟩ (.string sx) := c2
      have g0 : CellIs wr ⟨b, off + n * 3, none⟩ (.int .i64 ty) := d0
      have g1 : CellIs wr ⟨b, off + n * 3 + 1, none⟩ (.int .i64 iy) := d1
      have g2 : CellIs wr ⟨b, off + n * 3 + 2, none⟩ (.string sy) := d2
      have LAT := Lib.hid lat
      have hm0 : 0 < m := by omega
      have hd : decide ((n : Int) < (m : Int)) = true := by simp; omega
      have hi1 : (0 : Int) ≤ (n : Int) := by omega
      have hi2 : (n : Int) < (m : Int) := by omega
      have hi3 : (0 : Int) < (m : Int) := by omega
      clear hz hx0 lat c0 c1 c2 d0 d1 d2
      have e0 := e0.drew
      have e1 := e1.drew
      have e2 := e2.drew
      have g0 := g0.drew
      have g1 := g1.drew
      have g2 := g2.drew
      have lz := (Later.refl wr).drew
      by_cases hy : n - 1 < R
      · have hz0 : z = 0 := HZ.out.2 (HSTEP.out.2 hy)
        subst hz0
        go_wp2_with fail
        first
          | go_region_held3 (fun w' => w'.cell? ⟨b, off, none⟩ = some (.int .i64 tx) ∧ w'.cell? ⟨b, off + 1, none⟩ = some (.int .i64 ix) ∧ w'.cell? ⟨b, off + 2, none⟩ = some (.string sx) ∧ w'.cell? ⟨b, off + n * 3, none⟩ = some (.int .i64 ty) ∧ w'.cell? ⟨b, off + n * 3 + 1, none⟩ = some (.int .i64 iy) ∧ w'.cell? ⟨b, off + n * 3 + 2, none⟩ = some (.string sy)) (exact ⟨e0.out, e1.out, e2.out, g0.out, g1.out, g2.out⟩) (first | (go_at_call 62; refine (HCMP.out _).mono ?_; rintro e wX ⟨rfl, lX⟩; have lz := lz.trans lX; have e0 := e0.later lX; have e1 := e1.later lX; have e2 := e2.later lX; have g0 := g0.later lX; have g1 := g1.later lX; have g2 := g2.later lX; clear lX))
          | fail "no walk"
        all_goals go_wp2_with fail
        all_goals go_roundw
        case rel => exact ⟨n + 1, by go_num, by omega, by omega, LAT.out.trans lz⟩
        case measure => simp [intOf]; omega
      · have hz0 : ¬ z = 0 := fun h => hy (HSTEP.out.1 (HZ.out.1 h))
        have hzb : (z == 0) = false := by rw [beq_eq_false_iff_ne]; exact hz0
        have hne := Lib.hid (show n = R + 1 by omega)
        clear hz0
        go_wp2_with fail
        first
          | go_region_held3 (fun w' => w'.cell? ⟨b, off, none⟩ = some (.int .i64 tx) ∧ w'.cell? ⟨b, off + 1, none⟩ = some (.int .i64 ix) ∧ w'.cell? ⟨b, off + 2, none⟩ = some (.string sx) ∧ w'.cell? ⟨b, off + n * 3, none⟩ = some (.int .i64 ty) ∧ w'.cell? ⟨b, off + n * 3 + 1, none⟩ = some (.int .i64 iy) ∧ w'.cell? ⟨b, off + n * 3 + 2, none⟩ = some (.string sy)) (exact ⟨e0.out, e1.out, e2.out, g0.out, g1.out, g2.out⟩) (first | (go_at_call 62; refine (HCMP.out _).mono ?_; rintro e wX ⟨rfl, lX⟩; have lz := lz.trans lX; have e0 := e0.later lX; have e1 := e1.later lX; have e2 := e2.later lX; have g0 := g0.later lX; have g1 := g1.later lX; have g2 := g2.later lX; clear lX))
          | fail "no walk"
        all_goals go_wp2_with fail
        all_goals go_ret
        exact ⟨by rw [← hne.out]; rfl, LAT.out.trans lz⟩
    · have hne := Lib.hid (show n = R + 1 by omega)
      have LAT := Lib.hid lat
      have lz := (Later.refl wr).drew
      have hd : decide ((n : Int) < (m : Int)) = false := by simp; omega
      clear lat
      go_wp2_with fail
      go_quiet (fail)
      go_wp2_with fail
      go_ret
      exact ⟨by rw [← hne.out]; rfl, LAT.out.drewN _⟩
end Go.Proofs.YtifejanbgobngaaDoor
