/- The walk of DictAll. -/
import Derived.Test.YtfcedbhmbcbiaaaGreatDoorDictLaw
import Derived.Test.YtfcedbhmbcbiaaaGreatDoorRefDtD
import Derived.Deep.RegionHeld3
namespace Go.Proofs.YtfcedbhmbcbiaaaGreatDoor
open Go.RowKit
set_option linter.unusedVariables false

def tys7 (t : Int) : List Value := [.int .i64 t, .int .i64 1, .int .i64 2, .int .i64 3, .int .i64 4]
theorem tys7_get (t : Int) (i : Nat) (h : i < 5) : ∃ T : Int, (tys7 t)[i]? = some (.int .i64 T) := by
  obtain rfl | rfl | rfl | rfl | rfl : i = 0 ∨ i = 1 ∨ i = 2 ∨ i = 3 ∨ i = 4 := by omega
  all_goals exact ⟨_, rfl⟩
def lots7 (L0 : Option Addr) (n0 c0 : Nat) (L1 : Option Addr) (n1 c1 : Nat) : List Value := [.slice L0 n0 c0, .slice L1 n1 c1]

set_option maxRecDepth 100000 in
theorem dictAll_long (t : Int) (A : Option Addr) (n c : Nat) (L0 : Option Addr) (m0 c0 : Nat) (nn : Int) (B : Option Addr) (mb cb : Nat) (w : World) (hs : S6 w) (h : ¬ (n ≤ 60 ∧ m0 ≤ 20 ∧ mb ≤ 60)) :
    Calls Tryz.prog 3 #[.int .i64 t, .slice A n c, .slice L0 m0 c0, .int .i64 nn, .slice B mb cb] w fun e w' => e = .returned (.bool true) ∧ Later w w' := by
  have HB := Lib.hid (begun7_any w hs)
  clear hs
  go_enter Tryz.func3, Tryz.ntmps3
  go_wp2_with fail
  refine HB.out.mono ?_
  rintro e w1 ⟨rfl, l1⟩
  by_cases h1 : n ≤ 60
  · by_cases h2 : m0 ≤ 20
    · have h3 : 60 < mb := by omega
      have d1 : decide ((60 : Int) < (n : Int)) = false := by simp; omega
      have d2 : decide ((20 : Int) < (m0 : Int)) = false := by simp; omega
      have d3 : decide ((60 : Int) < (mb : Int)) = true := by simp; omega
      clear h
      go_wp2_with fail
      go_ret
      exact ⟨rfl, l1⟩
    · have d1 : decide ((60 : Int) < (n : Int)) = false := by simp; omega
      have d2 : decide ((20 : Int) < (m0 : Int)) = true := by simp; omega
      clear h
      go_wp2_with fail
      go_ret
      exact ⟨rfl, l1⟩
  · have d1 : decide ((60 : Int) < (n : Int)) = true := by simp; omega
    clear h
    go_wp2_with fail
    go_ret
    exact ⟨rfl, l1⟩

set_option maxRecDepth 100000 in
set_option maxHeartbeats 8000000 in
theorem dictAll_walk (t : Int) (A : Option Addr) (n c : Nat) (bs : List Nat) (L0 : Option Addr) (c0 : Nat) (l : List Val3) (nn : Int) (B : Option Addr) (cb : Nat) (b : List Nat) (w : World) (hs : S6 w) (hb : bs.length = n) (hn : n ≤ 60) (hr : Has w A (ints .u8 bs)) (h256 : ∀ x ∈ bs, x < 256) (hl20 : l.length ≤ 20) (hl : Has w L0 (fl l)) (h64 : All64 l) (hb60 : b.length ≤ 60) (hrb : Has w B (ints .u8 b)) (hb256 : ∀ x ∈ b, x < 256) (hbc : b.length ≤ cb) (hcb : cb ≤ 9223372036854775807) :
    Calls Tryz.prog 3 #[.int .i64 t, .slice A n c, .slice L0 l.length c0, .int .i64 nn, .slice B b.length cb] w fun e w' => e = .returned (.bool true) ∧ Later w w' := by
  have HB := Lib.hid (begun7_any w hs)
  have HS := Lib.hid hs
  have HR := Lib.hid hr
  have H256 := Lib.hid h256
  have HBS := Lib.hid hb
  have HL := Lib.hid hl
  have H64 := Lib.hid h64
  have HRB := Lib.hid hrb
  have HB256 := Lib.hid hb256
  have d1 : decide ((60 : Int) < (n : Int)) = false := by simp; omega
  have d2 : decide ((20 : Int) < (l.length : Int)) = false := by simp; omega
  have d3 : decide ((60 : Int) < (b.length : Int)) = false := by simp; omega
  clear hs hr h256 hb hl h64 hrb hb256
  go_enter Tryz.func3, Tryz.ntmps3
  go_wp2_with fail
  refine HB.out.mono ?_
  rintro e w1 ⟨rfl, l1⟩
  have HL1 := Lib.hid l1
  clear l1 HB
  go_wp2_with fail
  go_loopw [11] (fun i wr => ∃ j : Nat, j ≤ l.length ∧ i = .int .i64 j ∧ Later w wr) (fun i _ => l.length - (intOf i).toNat)
  case atStart => exact ⟨0, Nat.zero_le _, rfl, HL1.out⟩
  case round =>
    obtain ⟨j, hj, rfl, lat⟩ := hrel
    by_cases hlt : j < l.length
    · obtain ⟨bb, off, hadr, e0, e1, e2⟩ := (HL.out.later lat).val3 j hlt
      subst hadr
      generalize l[j].2.2 = s at e2
      have LAT := Lib.hid lat
      clear lat e0 e1
      by_cases h40 : 40 < s.size
      · have h40' : decide ((40 : Int) < (s.size : Int)) = true := by simp; omega
        go_wp2_with fail
        go_ret
        exact ⟨rfl, LAT.out⟩
      · have h40' : decide ((40 : Int) < (s.size : Int)) = false := by simp; omega
        go_wp2_with fail
        go_roundw
        case rel => exact ⟨j + 1, hlt, by go_num, LAT.out⟩
        case measure => simp [intOf]; omega
    · have LAT := Lib.hid lat
      clear lat HL1 d1 d2 d3
      go_wp2_with fail
      obtain ⟨w2, hw2⟩ : ∃ w2, w2 = wr.alloc (.cells (tys7 t).toArray 3) := ⟨_, rfl⟩
      have BT : Blk w2 wr.heap.size (tys7 t).toArray 3 := hw2 ▸ Blk.new wr _ _ _ rfl
      have L2 : Later w w2 := LAT.out.trans (hw2 ▸ Later.new _ _)
      obtain ⟨gT, hgT⟩ : ∃ g, g = wr.heap.size := ⟨_, rfl⟩
      rw [← hgT] at BT
      change Code.wp _ _ _ _ (wr.alloc (.cells (tys7 t).toArray 3))
      rw [← hw2, ← hgT]
      have HBT := Lib.hid BT
      have HL2 := Lib.hid L2
      clear hw2 hgT BT L2 LAT
      go_loopw [13] (fun i wi => ∃ k : Nat, k ≤ 5 ∧ i = .int .i64 k ∧ Later w2 wi) (fun i _ => 5 - (intOf i).toNat)
      case atStart => exact ⟨0, by omega, rfl, Later.refl _⟩
      case round =>
        obtain ⟨i, hi, rfl, lat⟩ := hrel
        by_cases hi5 : i < 5
        · obtain ⟨T, hT⟩ := tys7_get t i hi5
          have CT := CellIs.later (show CellIs w2 ⟨gT, i, none⟩ (.int .i64 T) from HBT.out.cell i _ (by rw [List.getElem?_toArray]; exact hT)) lat
          have hct := CT.out
          have S3 := Lib.hid (HS.out.later (HL2.out.trans lat))
          have HSM := Lib.hid (some_7 T 30 A n c bs _ (by omega) (by omega) HBS.out (HR.out.later (HL2.out.trans lat)) H256.out)
          have LAT := Lib.hid (HL2.out.trans lat)
          have LATI := Lib.hid lat
          clear lat hT
          go_wp2_with fail
          refine HSM.out.mono ?_
          rintro e w3 ⟨l1, Lo, c1, rfl, hl1, _, h641, hl30, _, _, _, l3⟩
          have CT3 := CT.later l3
          have L3 := Lib.hid (LAT.out.trans l3)
          have LI3 := Lib.hid (LATI.out.trans l3)
          obtain ⟨w4, hw4⟩ : ∃ w4, w4 = w3.alloc (.cells (lots7 L0 l.length c0 Lo l1.length c1).toArray 23) := ⟨_, rfl⟩
          have l4 : Later w3 w4 := hw4 ▸ Later.new _ _
          have BL : Blk w4 w3.heap.size (lots7 L0 l.length c0 Lo l1.length c1).toArray 23 := hw4 ▸ Blk.new w3 _ _ _ rfl
          obtain ⟨gL, hgL⟩ : ∃ g, g = w3.heap.size := ⟨_, rfl⟩
          rw [← hgL] at BL
          have HBL := Lib.hid BL
          have CT4 := Lib.hid (CT3.later l4)
          have L4 := Lib.hid (L3.out.trans l4)
          have LI4 := Lib.hid (LI3.out.trans l4)
          have HL14 := Lib.hid (hl1.later l4)
          have H641 := Lib.hid h641
          have HW4 := Lib.hid hw4
          have HGL := Lib.hid hgL
          clear hct CT CT3 LAT LATI HSM L3 LI3 l3 l4 hl1 h641 S3 BL hw4 hgL
          go_wp2_with fail
          change Code.wp _ _ _ _ (w3.alloc (.cells (lots7 L0 l.length c0 Lo l1.length c1).toArray 23))
          rw [← HW4.out, ← HGL.out]
          go_loopw [15] (fun i wi => ∃ k : Nat, k ≤ 2 ∧ i = .int .i64 k ∧ Later w4 wi) (fun i _ => 2 - (intOf i).toNat)
          case atStart => exact ⟨0, by omega, rfl, Later.refl _⟩
          case round =>
            obtain ⟨k, hk, rfl, lat⟩ := hrel
            by_cases hk2 : k < 2
            · obtain ⟨LL, ll, cll, hcell, hhas, hll64, hll⟩ : ∃ (LL : Option Addr) (ll : List Val3) (cll : Nat), (lots7 L0 l.length c0 Lo l1.length c1)[k]? = some (.slice LL ll.length cll) ∧ Has w4 LL (fl ll) ∧ All64 ll ∧ ll.length ≤ 30 := by
                obtain rfl | rfl : k = 0 ∨ k = 1 := by omega
                · exact ⟨L0, l, c0, rfl, HL.out.later L4.out, H64.out, by omega⟩
                · exact ⟨Lo, l1, c1, rfl, HL14.out, H641.out, by omega⟩
              have CL := CellIs.later (show CellIs w4 ⟨gL, k, none⟩ (.slice LL ll.length cll) from HBL.out.cell k _ (by rw [List.getElem?_toArray]; exact hcell)) lat
              have CT5 := CT4.out.later lat
              have HP := Lib.hid (fun w' (lz : Later wr w') => dictPut_any T LL cll ll w' (HS.out.later ((L4.out.trans lat).trans lz)) (by omega) (hhas.later (lat.trans lz)) hll64)
              have HE := Lib.hid (fun w' (lz : Later wr w') => refEncT_any T LL cll ll w' (by omega) (hhas.later (lat.trans lz)) hll64)
              have LAT := Lib.hid lat
              have d0 := CT5
              have d1 := CL
              have lz := Later.refl wr
              have hkk : (k : Int) < 2 := by omega
              clear lat hcell hhas hll64
              cases hput : putT T ll with
              | none =>
                have HPUT := Lib.hid hput
                clear hput
                go_wp2_with fail
                have lz := lz.drew
                have d0 := d0.drew
                have d1 := d1.drew
                go_region_held3 (fun w' => w'.cell? ⟨gT, i, none⟩ = some (.int .i64 T) ∧ w'.cell? ⟨gL, k, none⟩ = some (.slice LL ll.length cll)) (exact ⟨d0.out, d1.out⟩) (first | (go_at_call 7; refine (HP.out _ lz).mono ?_; intro e wX h; obtain ⟨rfl, lX⟩ := h.no HPUT.out; have lz := lz.trans lX; have d0 := d0.later lX; have d1 := d1.later lX; clear lX h))
                all_goals go_wp2_with fail
                all_goals have lz := lz.drew
                all_goals have d0 := d0.drew
                all_goals have d1 := d1.drew
                all_goals go_region_held3 (fun w' => w'.cell? ⟨gT, i, none⟩ = some (.int .i64 T) ∧ w'.cell? ⟨gL, k, none⟩ = some (.slice LL ll.length cll)) (exact ⟨d0.out, d1.out⟩) (first | (go_at_call 8; refine (HE.out _ lz).mono ?_; intro e wX h; obtain ⟨rfl, lX⟩ := h.no HPUT.out; have lz := lz.trans lX; have d0 := d0.later lX; have d1 := d1.later lX; have cv := conv_str none 0 0 [] rfl wX _ (Has.nil_ (w := wX)); clear lX h))
                all_goals go_wp2_with fail
                all_goals go_roundw
                case rel => exact ⟨k + 1, by omega, by go_num, LAT.out.trans lz⟩
                case measure => simp [intOf]; omega
              | some pb =>
                have HPUT := Lib.hid hput
                clear hput
                go_wp2_with fail
                have lz := lz.drew
                have d0 := d0.drew
                have d1 := d1.drew
                go_region_held3 (fun w' => w'.cell? ⟨gT, i, none⟩ = some (.int .i64 T) ∧ w'.cell? ⟨gL, k, none⟩ = some (.slice LL ll.length cll)) (exact ⟨d0.out, d1.out⟩) (first | (go_at_call 7; refine (HP.out _ lz).mono ?_; intro e wX h; obtain ⟨PA, pc, rfl, ph, _, _, _, lX⟩ := h.yes HPUT.out; have PH := Lib.hid ph; have lz := lz.trans lX; have d0 := d0.later lX; have d1 := d1.later lX; clear lX h ph))
                all_goals go_wp2_with fail
                all_goals have lz := lz.drew
                all_goals have d0 := d0.drew
                all_goals have d1 := d1.drew
                all_goals go_region_held3 (fun w' => w'.cell? ⟨gT, i, none⟩ = some (.int .i64 T) ∧ w'.cell? ⟨gL, k, none⟩ = some (.slice LL ll.length cll)) (exact ⟨d0.out, d1.out⟩) (first | (go_at_call 8; refine (HE.out _ lz).mono ?_; intro e wX h; obtain ⟨QA, qc, rfl, qh, _, _, _, lX⟩ := h.yes HPUT.out; have cv1 := conv_str PA pb.length pc pb rfl wX _ ((PH.out.later ((Later.refl _).drew)).later lX); have cv2 := conv_str QA pb.length qc pb rfl wX _ qh; have lz := lz.trans lX; have d0 := d0.later lX; have d1 := d1.later lX; clear lX h qh))
                all_goals go_wp2_with fail
                all_goals go_roundw
                case rel => exact ⟨k + 1, by omega, by go_num, LAT.out.trans lz⟩
                case measure => simp [intOf]; omega
            · have hkk : ¬ (k : Int) < 2 := by omega
              have LAT := Lib.hid lat
              have LW := Lib.hid (L4.out.trans lat)
              have LI := Lib.hid (LI4.out.trans lat)
              have CT5 := CT4.out.later lat
              have HH := Lib.hid (handed_any B b.length cb b wr rfl (HRB.out.later (L4.out.trans lat)) (by omega))
              clear lat HBL HL14 H641
              go_wp2_with fail
              refine HH.out.mono ?_
              rintro e w6 ⟨rfl, row, b6⟩
              have l6 : Later wr w6 := Later.of b6
              obtain ⟨gh, hgh⟩ : ∃ gh, gh = wr.heap.size := ⟨_, rfl⟩
              rw [← hgh] at row ⊢
              have HH6 : Has w6 (some ⟨gh, 0, none⟩) (ints .u8 b) := by
                have h := row.rd.take b.length
                rw [ints_take, List.take_left] at h
                exact h
              have CT6 := CT5.later l6
              have hct := CT6.out
              have LW6 := Lib.hid (LW.out.trans l6)
              have LI6 := Lib.hid (LI.out.trans l6)
              have HROW := Lib.hid row
              have HTK := Lib.hid (dictTake_any T nn (some ⟨gh, 0, none⟩) (b.length + 5) b w6 (HS.out.later LW6.out) HH6 HB256.out (by omega) (by omega) (by omega))
              have HDC := Lib.hid (fun w' (lz : Later w6 w') => refDecT_any T nn B cb b w' (HRB.out.later (LW6.out.trans lz)) HB256.out (by omega) hbc hcb)
              have HSA := Lib.hid (fun w' (lz : Later w6 w') => same_any gh B b.length cb (b.length + 5) b w' rfl rfl (lz.row HROW.out) (HRB.out.later (LW6.out.trans lz)) (by omega))
              clear row hgh b6 l6 HH6 CT5 LW LI HH LAT
              cases htk : takeT T nn b with
              | none =>
                have HTN := Lib.hid htk
                clear htk
                go_wp2_with fail
                refine HTK.out.mono ?_
                intro e w7 h
                obtain ⟨rfl, l7⟩ := h.no HTN.out
                have hct := (CT6.later l7).out
                clear h HTK
                go_wp2_with fail
                refine (HDC.out w7 l7).mono ?_
                intro e w8 h
                obtain ⟨rfl, l8⟩ := h.no HTN.out
                have L8 := Lib.hid (l7.trans l8)
                clear h l7 l8 hct CT6
                go_wp2_with fail
                refine (sameValues_len none none 0 0 0 [] [] w8 rfl rfl Has.nil_ Has.nil_ (by omega)).mono ?_
                intro e w9 h
                obtain ⟨rfl, l9⟩ := h.yes (by first | rfl | trivial)
                have L9 := Lib.hid (L8.out.trans l9)
                clear h l9
                go_wp2_with fail
                refine (HSA.out w9 L9.out).mono ?_
                rintro e w' ⟨rfl, rfl⟩
                go_wp2_with fail
                go_roundw
                case rel => exact ⟨i + 1, by omega, by go_num, LI6.out.trans L9.out⟩
                case measure => simp [intOf]; omega
              | some l' =>
                have HTN := Lib.hid htk
                have hl'0 := takeT_len HB256.out htk
                clear htk
                go_wp2_with fail
                refine HTK.out.mono ?_
                intro e w7 h
                obtain ⟨XA, xc, rfl, xh, l7⟩ := h.yes HTN.out
                have hct := (CT6.later l7).out
                have XH := Lib.hid xh
                clear h HTK xh
                go_wp2_with fail
                refine (HDC.out w7 l7).mono ?_
                intro e w8 h
                obtain ⟨YA, yc, rfl, yh, l8⟩ := h.yes HTN.out
                have L8 := Lib.hid (l7.trans l8)
                have HSV := Lib.hid (sameValues_any XA YA xc yc l' l' w8 (XH.out.later l8) yh (by omega) (by omega))
                clear h l7 l8 hct CT6 yh XH
                go_wp2_with fail
                refine HSV.out.mono ?_
                intro e w9 h
                obtain ⟨rfl, l9⟩ := h.yes (by first | rfl | trivial)
                have L9 := Lib.hid (L8.out.trans l9)
                clear h l9 HSV
                go_wp2_with fail
                refine (HSA.out w9 L9.out).mono ?_
                rintro e w' ⟨rfl, rfl⟩
                go_wp2_with fail
                go_roundw
                case rel => exact ⟨i + 1, by omega, by go_num, LI6.out.trans L9.out⟩
                case measure => simp [intOf]; omega
        · obtain rfl : i = 5 := by omega
          have LZ := Lib.hid (HL2.out.trans lat)
          clear lat
          go_wp2_with fail
          go_ret
          exact ⟨rfl, LZ.out⟩
end Go.Proofs.YtfcedbhmbcbiaaaGreatDoor
