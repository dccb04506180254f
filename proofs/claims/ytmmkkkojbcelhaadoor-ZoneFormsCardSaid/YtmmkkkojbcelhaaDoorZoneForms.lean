/- The walk of ZoneForms. -/
import Derived.Test.YtmmkkkojbcelhaaDoorZoneB
import Derived.Deep.RegionHeld3
namespace Go.Proofs.YtmmkkkojbcelhaaDoor
open Go.RowKit
set_option linter.unusedVariables false

theorem whole_any (v : Int) (w : World) : Calls Tryd.prog 14 #[.int .i64 v] w fun e w' => e = .returned (vagg 2 v ⟨#[]⟩) ∧ Later w w' := by
  have B0 := Blk.new w #[.int .i64 0, .int .i64 0, .string ⟨#[]⟩] 28 _ rfl
  have L3 := three_later (Later.new w (.cells #[.int .i64 0, .int .i64 0, .string ⟨#[]⟩] 28)) (Nat.le_refl _) (.int .i64 2) (.int .i64 v) (.string ⟨#[]⟩)
  have HL3 := Lib.hid L3
  clear L3 B0
  go_enter Tryd.func14, Tryd.ntmps14
  go_wp2_with fail
  have BF := Blk.new w #[.int .i64 2, .int .i64 v, .string ⟨#[]⟩] 28 _ rfl
  have r0 := BF.cell 0 _ rfl
  have r1 := BF.cell 1 _ rfl
  have r2 := BF.cell 2 _ rfl
  exact bodyPost_ret (v := .agg #[.int .i64 2, .int .i64 v, .string ⟨#[]⟩]) (by simp [results, Tryd.results14, go_sem, r0, r1, r2]) rfl ⟨rfl, Later.new _ _⟩

def zl1 : List Val3 := [(2, 2, ⟨#[]⟩), (2, 5, ⟨#[]⟩), (0, 0, ⟨#[]⟩)]
def zl2 : List Val3 := [(2, 3, ⟨#[]⟩), (2, 3, ⟨#[]⟩)]
def zl3 : List Val3 := [(0, 0, ⟨#[]⟩), (0, 0, ⟨#[]⟩)]
def zops : List Int := [1, 1, 1, 2, 3, 3, 4, 4, 5, 5, 6, 6, 7, 8]
def zvals : List Int := [1, 2, 6, 9, 2, 3, 1, 2, 5, 4, 6, 5, 0, 0]
def zwant : List Bool := [false, true, false, true, false, true, false, true, false, true, false, true, true, true]
def opsV : List Value := zops.map (Value.int .i64)
def valsV : List Value := zvals.map (Value.int .i64)
def wantV : List Value := zwant.map Value.bool
theorem ztable (k : Nat) (h : k < 14) : ∃ (o v : Int) (b : Bool), opsV[k]? = some (.int .i64 o) ∧ valsV[k]? = some (.int .i64 v) ∧ wantV[k]? = some (.bool b) ∧ canZ 1 (2, 2, ⟨#[]⟩) (2, 5, ⟨#[]⟩) 3 o (2, v, ⟨#[]⟩) = b := by
  have : k = 0 ∨ k = 1 ∨ k = 2 ∨ k = 3 ∨ k = 4 ∨ k = 5 ∨ k = 6 ∨ k = 7 ∨ k = 8 ∨ k = 9 ∨ k = 10 ∨ k = 11 ∨ k = 12 ∨ k = 13 := by omega
  rcases this with rfl | rfl | rfl | rfl | rfl | rfl | rfl | rfl | rfl | rfl | rfl | rfl | rfl | rfl
  all_goals exact ⟨_, _, _, rfl, rfl, rfl, by decide⟩

/-- The zones of the statement. -/
abbrev zA : Array Value := #[.int .i64 1, .int .i64 2, .int .i64 2, .string ⟨#[]⟩, .int .i64 2, .int .i64 5, .string ⟨#[]⟩]
abbrev zB : Array Value := #[.int .i64 0, .int .i64 2, .int .i64 3, .string ⟨#[]⟩, .int .i64 2, .int .i64 3, .string ⟨#[]⟩]
abbrev zC : Array Value := #[.int .i64 2, .int .i64 0, .int .i64 0, .string ⟨#[]⟩, .int .i64 0, .int .i64 0, .string ⟨#[]⟩]
theorem zoneOf_1 (A : Option Addr) (w : World) (hr : Has w A (fl zl1)) : Calls Tryd.prog 11 #[.slice A 3 3] w fun e w' => e = .returned (.agg zA) ∧ Later w w' := zoneOf_any A 3 3 zl1 w rfl (by decide) hr
theorem zoneOf_2 (A : Option Addr) (w : World) (hr : Has w A (fl zl2)) : Calls Tryd.prog 11 #[.slice A 2 2] w fun e w' => e = .returned (.agg zB) ∧ Later w w' := zoneOf_any A 2 2 zl2 w rfl (by decide) hr
theorem zoneOf_3 (A : Option Addr) (w : World) (hr : Has w A (fl zl3)) : Calls Tryd.prog 11 #[.slice A 2 2] w fun e w' => e = .returned (.agg zC) ∧ Later w w' := zoneOf_any A 2 2 zl3 w rfl (by decide) hr
theorem zoneOf_0 (w : World) : Calls Tryd.prog 11 #[.slice none 0 0] w fun e w' => e = .returned (.agg #[.int .i64 0, .int .i64 0, .int .i64 0, .string ⟨#[]⟩, .int .i64 0, .int .i64 0, .string ⟨#[]⟩]) ∧ Later w w' := zoneOf_any none 0 0 [] w rfl (by decide) Has.nil_

theorem canB_1 (w : World) : Calls Tryd.prog 13 #[.agg zB, .int .i64 2, .int .i64 2, .agg #[.int .i64 2, .int .i64 3, .string ⟨#[]⟩]] w fun e w' => e = .returned (.bool false) ∧ Later w w' := zoneCan_c 0 2 2 2 3 ⟨#[]⟩ 2 3 ⟨#[]⟩ 2 3 ⟨#[]⟩ w
theorem canB_2 (w : World) : Calls Tryd.prog 13 #[.agg zB, .int .i64 2, .int .i64 2, .agg #[.int .i64 2, .int .i64 4, .string ⟨#[]⟩]] w fun e w' => e = .returned (.bool true) ∧ Later w w' := zoneCan_c 0 2 2 2 3 ⟨#[]⟩ 2 3 ⟨#[]⟩ 2 4 ⟨#[]⟩ w
theorem canB_3 (w : World) : Calls Tryd.prog 13 #[.agg zB, .int .i64 2, .int .i64 7, .agg #[.int .i64 2, .int .i64 3, .string ⟨#[]⟩]] w fun e w' => e = .returned (.bool false) ∧ Later w w' := zoneCan_c 0 2 7 2 3 ⟨#[]⟩ 2 3 ⟨#[]⟩ 2 3 ⟨#[]⟩ w
theorem canB_4 (w : World) : Calls Tryd.prog 13 #[.agg zB, .int .i64 2, .int .i64 8, .agg #[.int .i64 2, .int .i64 3, .string ⟨#[]⟩]] w fun e w' => e = .returned (.bool true) ∧ Later w w' := zoneCan_c 0 2 8 2 3 ⟨#[]⟩ 2 3 ⟨#[]⟩ 2 3 ⟨#[]⟩ w
theorem canC_1 (w : World) : Calls Tryd.prog 13 #[.agg zC, .int .i64 2, .int .i64 7, .agg #[.int .i64 2, .int .i64 3, .string ⟨#[]⟩]] w fun e w' => e = .returned (.bool true) ∧ Later w w' := zoneCan_c 2 2 7 0 0 ⟨#[]⟩ 0 0 ⟨#[]⟩ 2 3 ⟨#[]⟩ w
theorem canC_2 (w : World) : Calls Tryd.prog 13 #[.agg zC, .int .i64 2, .int .i64 8, .agg #[.int .i64 2, .int .i64 3, .string ⟨#[]⟩]] w fun e w' => e = .returned (.bool false) ∧ Later w w' := zoneCan_c 2 2 8 0 0 ⟨#[]⟩ 0 0 ⟨#[]⟩ 2 3 ⟨#[]⟩ w
theorem canC_3 (w : World) : Calls Tryd.prog 13 #[.agg zC, .int .i64 2, .int .i64 1, .agg #[.int .i64 2, .int .i64 3, .string ⟨#[]⟩]] w fun e w' => e = .returned (.bool false) ∧ Later w w' := zoneCan_c 2 2 1 0 0 ⟨#[]⟩ 0 0 ⟨#[]⟩ 2 3 ⟨#[]⟩ w
theorem canA_1 (w : World) : Calls Tryd.prog 13 #[.agg zA, .int .i64 3, .int .i64 1, .agg #[.int .i64 0, .int .i64 0, .string ⟨#[]⟩]] w fun e w' => e = .returned (.bool false) ∧ Later w w' := zoneCan_c 1 3 1 2 2 ⟨#[]⟩ 2 5 ⟨#[]⟩ 0 0 ⟨#[]⟩ w
theorem canA_2 (w : World) : Calls Tryd.prog 13 #[.agg zA, .int .i64 3, .int .i64 9, .agg #[.int .i64 2, .int .i64 3, .string ⟨#[]⟩]] w fun e w' => e = .returned (.bool false) ∧ Later w w' := zoneCan_c 1 3 9 2 2 ⟨#[]⟩ 2 5 ⟨#[]⟩ 2 3 ⟨#[]⟩ w

set_option maxRecDepth 100000 in
set_option maxHeartbeats 8000000 in
theorem zoneForms_walk (w : World) (hs : S11 w) : Calls Tryd.prog 5 #[] w fun e w' => e = .returned (.bool true) ∧ Later w w' := by
  have HB := Lib.hid (begun11_any w hs)
  clear hs
  go_enter Tryd.func5, Tryd.ntmps5
  go_wp2_with fail
  refine HB.out.mono ?_
  rintro e w1 ⟨rfl, l1⟩
  have HL1 := Lib.hid l1
  clear l1 HB
  go_wp2_with fail
  refine (whole_any 3 w1).mono ?_
  rintro e wa ⟨rfl, la⟩
  have BA := Blk.new wa #[.int .i64 2, .int .i64 3, .string ⟨#[]⟩] 28 _ rfl
  have HLA := Lib.hid ((HL1.out.trans la).alloc (.cells #[.int .i64 2, .int .i64 3, .string ⟨#[]⟩] 28))
  have HBA := Lib.hid BA
  clear la BA HL1
  go_wp2_with fail
  refine (whole_any 2 _).mono ?_
  rintro e wb ⟨rfl, lb⟩
  have HLB := Lib.hid (HLA.out.trans lb)
  have HBB := Lib.hid (HBA.out.later lb)
  clear lb HLA HBA
  go_wp2_with fail
  refine (whole_any 5 wb).mono ?_
  rintro e wc ⟨rfl, lc⟩
  have q2 := lc.alloc (.cells (fl zl1).toArray 28)
  have HO := Lib.hid (zoneOf_1 (some ⟨wc.heap.size, 0, none⟩) _ (Blk.new wc (fl zl1).toArray 28 _ rfl).has)
  have HQ2 := Lib.hid (HLB.out.trans q2)
  have HB1 := Lib.hid (HBB.out.later q2)
  clear lc q2 HLB HBB
  go_wp2_with fail
  refine HO.out.mono ?_
  rintro e w2 ⟨rfl, l2⟩
  have q3 := Later.new w2 (.cells zA 31)
  have B2 := Blk.new w2 zA 31 _ rfl
  have q4 := q3.alloc (.cells (fl zl2).toArray 28)
  have HO2 := Lib.hid (zoneOf_2 (some ⟨(w2.alloc (.cells zA 31)).heap.size, 0, none⟩) _ (Blk.new (w2.alloc (.cells zA 31)) (fl zl2).toArray 28 _ rfl).has)
  rw [show (w2.alloc (.cells zA 31)).heap.size = w2.heap.size + 1 by simp] at HO2
  have B1' := HB1.out.later (l2.trans q3)
  have k0 := B1'.cell 0 _ rfl
  have k1 := B1'.cell 1 _ rfl
  have k2 := B1'.cell 2 _ rfl
  have HQ4 := Lib.hid ((HQ2.out.trans l2).trans q4)
  have HB1a := Lib.hid (B1'.later (Later.new _ (.cells (fl zl2).toArray 28)))
  have HB2 := Lib.hid (B2.later (Later.new _ (.cells (fl zl2).toArray 28)))
  clear q3 B2 q4 B1' l2 HO HQ2 HB1
  go_wp2_with fail
  refine HO2.out.mono ?_
  rintro e w3 ⟨rfl, l3⟩
  have q5 := Later.new w3 (.cells zB 31)
  have B3 := Blk.new w3 zB 31 _ rfl
  have q6 := q5.alloc (.cells (fl zl3).toArray 28)
  have HO3 := Lib.hid (zoneOf_3 (some ⟨(w3.alloc (.cells zB 31)).heap.size, 0, none⟩) _ (Blk.new (w3.alloc (.cells zB 31)) (fl zl3).toArray 28 _ rfl).has)
  rw [show (w3.alloc (.cells zB 31)).heap.size = w3.heap.size + 1 by simp] at HO3
  have HQ6 := Lib.hid ((HQ4.out.trans l3).trans q6)
  have HB1b := Lib.hid (HB1a.out.later (l3.trans q6))
  have HB2b := Lib.hid (HB2.out.later (l3.trans q6))
  have HB3 := Lib.hid (B3.later (Later.new _ (.cells (fl zl3).toArray 28)))
  clear q5 B3 q6 l3 HO2 HQ4 HB1a HB2 k0 k1 k2
  go_wp2_with fail
  refine HO3.out.mono ?_
  rintro e w4 ⟨rfl, l4⟩
  clear HO3
  go_wp2_with fail
  obtain ⟨w5, hw5⟩ : ∃ x, x = (((w4.alloc (.cells zC 31)).alloc (.cells opsV.toArray 3)).alloc (.cells valsV.toArray 2)).alloc (.cells wantV.toArray 4) := ⟨_, rfl⟩
  have l5 : Later w4 w5 := hw5 ▸ (((Later.new w4 _).alloc _).alloc _).alloc _
  have B4 : Blk w5 w4.heap.size zC 31 := hw5 ▸ (Blk.new w4 zC 31 _ rfl).later (((Later.new _ _).alloc _).alloc _)
  have B5 : Blk w5 (w4.heap.size + 1) opsV.toArray 3 := hw5 ▸ (Blk.new _ opsV.toArray 3 _ (by simp)).later ((Later.new _ _).alloc _)
  have B6 : Blk w5 (w4.heap.size + 1 + 1) valsV.toArray 2 := hw5 ▸ (Blk.new _ valsV.toArray 2 _ (by simp)).later (Later.new _ _)
  have B7 : Blk w5 (w4.heap.size + 1 + 1 + 1) wantV.toArray 4 := hw5 ▸ Blk.new _ wantV.toArray 4 _ (by simp)
  change Code.wp _ _ _ _ ((((w4.alloc (.cells zC 31)).alloc (.cells opsV.toArray 3)).alloc (.cells valsV.toArray 2)).alloc (.cells wantV.toArray 4))
  rw [← hw5]
  have HL5 := Lib.hid ((HQ6.out.trans l4).trans l5)
  have C1 := Lib.hid (HB1b.out.later (l4.trans l5))
  have C2 := Lib.hid (HB2b.out.later (l4.trans l5))
  have C3 := Lib.hid (HB3.out.later (l4.trans l5))
  have C4 := Lib.hid B4
  have C5 := Lib.hid B5
  have C6 := Lib.hid B6
  have C7 := Lib.hid B7
  clear B4 B5 B6 B7 l4 l5 hw5 HQ6 HB1b HB2b HB3
  go_loopw [8] (fun i wr => ∃ k : Nat, k ≤ 14 ∧ i = .int .i64 k ∧ Later w5 wr) (fun i _ => 14 - (intOf i).toNat)
  case atStart => exact ⟨0, by omega, rfl, Later.refl _⟩
  case round =>
    obtain ⟨k, hk, rfl, lat⟩ := hrel
    by_cases hlt : k < 14
    · obtain ⟨o, v, b, h1, h2, h3, h4⟩ := ztable k hlt
      have d0 := (C2.out.later lat).drew
      have d1 := CellIs.drew (CellIs.later (show CellIs w5 ⟨w4.heap.size + 1, k, none⟩ (.int .i64 o) from C5.out.cell k _ (by rw [List.getElem?_toArray]; exact h1)) lat)
      have d2 := CellIs.drew (CellIs.later (show CellIs w5 ⟨w4.heap.size + 1 + 1, k, none⟩ (.int .i64 v) from C6.out.cell k _ (by rw [List.getElem?_toArray]; exact h2)) lat)
      have d3 := CellIs.drew (CellIs.later (show CellIs w5 ⟨w4.heap.size + 1 + 1 + 1, k, none⟩ (.bool b) from C7.out.cell k _ (by rw [List.getElem?_toArray]; exact h3)) lat)
      have lz := lat.drew
      have HC := Lib.hid (fun w' => zoneCan_c 1 3 o 2 2 ⟨#[]⟩ 2 5 ⟨#[]⟩ 2 v ⟨#[]⟩ w')
      rw [h4] at HC
      have hkk : (k : Int) < 14 := by omega
      have hbb : (b != b) = false := by simp
      clear h1 h2 h3 h4 lat C1 C3 C4 C5 C6 C7
      go_wp2_with fail
      go_region_held3 (fun w' => w'.cell? ⟨w2.heap.size, 0, none⟩ = some (.int .i64 1) ∧ w'.cell? ⟨w2.heap.size, 1, none⟩ = some (.int .i64 2) ∧ w'.cell? ⟨w2.heap.size, 2, none⟩ = some (.int .i64 2) ∧ w'.cell? ⟨w2.heap.size, 3, none⟩ = some (.string ⟨#[]⟩) ∧ w'.cell? ⟨w2.heap.size, 4, none⟩ = some (.int .i64 2) ∧ w'.cell? ⟨w2.heap.size, 5, none⟩ = some (.int .i64 5) ∧ w'.cell? ⟨w2.heap.size, 6, none⟩ = some (.string ⟨#[]⟩) ∧ w'.cell? ⟨w4.heap.size + 1, k, none⟩ = some (.int .i64 o) ∧ w'.cell? ⟨w4.heap.size + 1 + 1, k, none⟩ = some (.int .i64 v) ∧ w'.cell? ⟨w4.heap.size + 1 + 1 + 1, k, none⟩ = some (.bool b)) (exact ⟨d0.cell 0 _ rfl, d0.cell 1 _ rfl, d0.cell 2 _ rfl, d0.cell 3 _ rfl, d0.cell 4 _ rfl, d0.cell 5 _ rfl, d0.cell 6 _ rfl, d1.out, d2.out, d3.out⟩) (first
        | (go_at_call 14; refine (whole_any _ _).mono ?_; rintro e wX ⟨rfl, lX⟩; have lz := lz.trans lX; have d0 := d0.later lX; have d1 := d1.later lX; have d2 := d2.later lX; have d3 := d3.later lX; clear lX)
        | (go_at_call 13; refine (HC.out _).mono ?_; rintro e wX ⟨rfl, lX⟩; have lz := lz.trans lX; have d0 := d0.later lX; have d1 := d1.later lX; have d2 := d2.later lX; have d3 := d3.later lX; clear lX))
      all_goals go_wp2_with fail
      all_goals go_roundw
      case rel => exact ⟨k + 1, by omega, by go_num, lz⟩
      case measure => simp [intOf]; omega
    · obtain rfl : k = 14 := by omega
      have e1 := (C1.out.later lat).drew
      have e2 := (C2.out.later lat).drew
      have e3 := (C3.out.later lat).drew
      have e4 := (C4.out.later lat).drew
      have lz := (HL5.out.trans lat).drew
      clear lat C1 C2 C3 C4 C5 C6 C7 HL5
      go_wp2_with fail
      go_region_held3 (fun w' => (w'.cell? ⟨wa.heap.size, 0, none⟩ = some (.int .i64 2) ∧ w'.cell? ⟨wa.heap.size, 1, none⟩ = some (.int .i64 3) ∧ w'.cell? ⟨wa.heap.size, 2, none⟩ = some (.string ⟨#[]⟩)) ∧
        (w'.cell? ⟨w2.heap.size, 0, none⟩ = some (.int .i64 1) ∧ w'.cell? ⟨w2.heap.size, 1, none⟩ = some (.int .i64 2) ∧ w'.cell? ⟨w2.heap.size, 2, none⟩ = some (.int .i64 2) ∧ w'.cell? ⟨w2.heap.size, 3, none⟩ = some (.string ⟨#[]⟩) ∧ w'.cell? ⟨w2.heap.size, 4, none⟩ = some (.int .i64 2) ∧ w'.cell? ⟨w2.heap.size, 5, none⟩ = some (.int .i64 5) ∧ w'.cell? ⟨w2.heap.size, 6, none⟩ = some (.string ⟨#[]⟩)) ∧
        (w'.cell? ⟨w3.heap.size, 0, none⟩ = some (.int .i64 0) ∧ w'.cell? ⟨w3.heap.size, 1, none⟩ = some (.int .i64 2) ∧ w'.cell? ⟨w3.heap.size, 2, none⟩ = some (.int .i64 3) ∧ w'.cell? ⟨w3.heap.size, 3, none⟩ = some (.string ⟨#[]⟩) ∧ w'.cell? ⟨w3.heap.size, 4, none⟩ = some (.int .i64 2) ∧ w'.cell? ⟨w3.heap.size, 5, none⟩ = some (.int .i64 3) ∧ w'.cell? ⟨w3.heap.size, 6, none⟩ = some (.string ⟨#[]⟩)) ∧
        (w'.cell? ⟨w4.heap.size, 0, none⟩ = some (.int .i64 2) ∧ w'.cell? ⟨w4.heap.size, 1, none⟩ = some (.int .i64 0) ∧ w'.cell? ⟨w4.heap.size, 2, none⟩ = some (.int .i64 0) ∧ w'.cell? ⟨w4.heap.size, 3, none⟩ = some (.string ⟨#[]⟩) ∧ w'.cell? ⟨w4.heap.size, 4, none⟩ = some (.int .i64 0) ∧ w'.cell? ⟨w4.heap.size, 5, none⟩ = some (.int .i64 0) ∧ w'.cell? ⟨w4.heap.size, 6, none⟩ = some (.string ⟨#[]⟩)))
        (exact ⟨⟨e1.cell 0 _ rfl, e1.cell 1 _ rfl, e1.cell 2 _ rfl⟩, ⟨e2.cell 0 _ rfl, e2.cell 1 _ rfl, e2.cell 2 _ rfl, e2.cell 3 _ rfl, e2.cell 4 _ rfl, e2.cell 5 _ rfl, e2.cell 6 _ rfl⟩, ⟨e3.cell 0 _ rfl, e3.cell 1 _ rfl, e3.cell 2 _ rfl, e3.cell 3 _ rfl, e3.cell 4 _ rfl, e3.cell 5 _ rfl, e3.cell 6 _ rfl⟩, ⟨e4.cell 0 _ rfl, e4.cell 1 _ rfl, e4.cell 2 _ rfl, e4.cell 3 _ rfl, e4.cell 4 _ rfl, e4.cell 5 _ rfl, e4.cell 6 _ rfl⟩⟩) (first
        | (go_at_call 14; refine (whole_any _ _).mono ?_; rintro e wX ⟨rfl, lX⟩; have lz := lz.trans lX; have e1 := e1.later lX; have e2 := e2.later lX; have e3 := e3.later lX; have e4 := e4.later lX; clear lX)
        | (go_at_call 11; refine (zoneOf_0 _).mono ?_; rintro e wX ⟨rfl, lX⟩; have lz := lz.trans lX; have e1 := e1.later lX; have e2 := e2.later lX; have e3 := e3.later lX; have e4 := e4.later lX; clear lX)
        | (go_at_call 13; first
            | (with_reducible refine (canB_1 _).mono ?_)
            | (with_reducible refine (canB_2 _).mono ?_)
            | (with_reducible refine (canB_3 _).mono ?_)
            | (with_reducible refine (canB_4 _).mono ?_)
            | (with_reducible refine (canC_1 _).mono ?_)
            | (with_reducible refine (canC_2 _).mono ?_)
            | (with_reducible refine (canC_3 _).mono ?_)
            | (with_reducible refine (canA_1 _).mono ?_)
            | (with_reducible refine (canA_2 _).mono ?_)
           rintro e wX ⟨rfl, lX⟩; have lz := lz.trans lX; have e1 := e1.later lX; have e2 := e2.later lX; have e3 := e3.later lX; have e4 := e4.later lX; clear lX))
      all_goals go_wp2_with fail
      all_goals go_ret
      all_goals exact ⟨rfl, lz⟩
end Go.Proofs.YtmmkkkojbcelhaaDoor
