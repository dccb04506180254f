/- The walk of the reference's Compare. -/
import Derived.Test.YtmmkkkojbcelhaaDoorRCmp
import Derived.Test.YtmmkkkojbcelhaaDoorValZ
import Derived.Test.YtmmkkkojbcelhaaDoorCell
import Derived.Deep.RegionHeld3
namespace Go.Proofs.YtmmkkkojbcelhaaDoor
open Go.RowKit
set_option linter.unusedVariables false

theorem class_l (t i : Int) (s : ByteArray) (w : World) : Calls Tryd.prog 26 #[vagg t i s] w fun e w' => e = .returned (.int .i64 (rankV t)) ∧ Later w w' := V1.class_any t i s w
set_option maxRecDepth 100000 in
set_option maxHeartbeats 2000000 in
theorem refCmp_any (t i : Int) (s : ByteArray) (t' i' : Int) (s' : ByteArray) (w : World) :
    Calls Tryd.prog 12 #[vagg t i s, vagg t' i' s'] w (TellsInt (cmpV t i s t' i' s') w) := by
  obtain ⟨w1, hw1⟩ : ∃ w1 : World, (w.alloc (.cells #[.int .i64 t, .int .i64 i, .string s] 28)).alloc (.cells #[.int .i64 t', .int .i64 i', .string s'] 28) = w1 := ⟨_, rfl⟩
  have L1 : Later w w1 := hw1 ▸ ((Later.refl w).alloc _).alloc _
  have A1 : Blk w1 w.heap.size #[.int .i64 t, .int .i64 i, .string s] 28 := hw1 ▸ (Blk.new w _ _ _ rfl).later (Later.new _ _)
  have B1 : Blk w1 (w.heap.size + 1) #[.int .i64 t', .int .i64 i', .string s'] 28 := hw1 ▸ Blk.new _ _ _ _ (by simp)
  have HW := Lib.hid hw1
  clear hw1
  have a0 := A1.cell 0 _ rfl
  have a1 := A1.cell 1 _ rfl
  have a2 := A1.cell 2 _ rfl
  have b0 := B1.cell 0 _ rfl
  have b1 := B1.cell 1 _ rfl
  have b2 := B1.cell 2 _ rfl
  go_enter Tryd.func12, Tryd.ntmps12
  go_wp2_with fail
  rw [HW.out]
  have A1 := A1.drew
  have B1 := B1.drew
  have L1 := L1.drew
  go_region_with (go_at_call 26; refine (class_l _ _ _ _).mono ?_; rintro e wX ⟨rfl, lX⟩; have A1 := A1.later lX; have B1 := B1.later lX; have L1 := L1.trans lX; have a0 := A1.cell 0 _ rfl; have a1 := A1.cell 1 _ rfl; have a2 := A1.cell 2 _ rfl; have b0 := B1.cell 0 _ rfl; have b1 := B1.cell 1 _ rfl; have b2 := B1.cell 2 _ rfl; clear lX)
  all_goals
    have hin := rankV_in t
    have hin' := rankV_in t'
    have HF := Lib.hid (show rankV t ≠ rankV t' → cmpV t i s t' i' s' = cmpI (rankV t) (rankV t') from cmpV_far)
    have HV := Lib.hid (show rankV t = rankV t' → cmpV t i s t' i' s' = if rankV t = 0 then 0 else if rankV t = 2 then cmpS s.data.toList s'.data.toList else cmpI i i' from cmpV_near)
    obtain ⟨x, hx⟩ : ∃ x, x = rankV t := ⟨_, rfl⟩
    obtain ⟨y, hy⟩ : ∃ y, y = rankV t' := ⟨_, rfl⟩
    rw [← hx] at hin HF HV ⊢
    rw [← hy] at hin' HF HV ⊢
    have hx3 : x = 0 ∨ x = 1 ∨ x = 2 := by omega
    have hy3 : y = 0 ∨ y = 1 ∨ y = 2 := by omega
    clear hx hy hin hin'
    rcases Int.lt_trichotomy x y with hlt | heq | hgt
    · have HZ := Lib.hid ((HF.out (by omega)).trans (cmpI_lt hlt))
      clear hx3 hy3
      go_wp2_with fail
      go_ret
      exact ⟨ret_int HZ.out.symm, L1⟩
    · subst heq
      rcases hx3 with rfl | rfl | rfl
      · have HZ := Lib.hid (show cmpV t i s t' i' s' = 0 from HV.out rfl)
        clear hy3
        go_wp2_with fail
        go_ret
        exact ⟨ret_int HZ.out.symm, L1⟩
      · have HZ := Lib.hid (show cmpV t i s t' i' s' = cmpI i i' from HV.out rfl)
        clear hy3
        rcases Int.lt_trichotomy i i' with hlt | heq | hgt
        · have HZ2 := Lib.hid (HZ.out.trans (cmpI_lt hlt))
          go_wp2_with fail
          go_ret
          exact ⟨ret_int HZ2.out.symm, L1⟩
        · have HZ2 := Lib.hid (HZ.out.trans (cmpI_eq heq))
          subst heq
          go_wp2_with fail
          go_ret
          exact ⟨ret_int HZ2.out.symm, L1⟩
        · have HZ2 := Lib.hid (HZ.out.trans (cmpI_gt hgt))
          have hnl : ¬ i < i' := by omega
          go_wp2_with fail
          go_ret
          exact ⟨ret_int HZ2.out.symm, L1⟩
      · have HZ := Lib.hid (show cmpV t i s t' i' s' = cmpS s.data.toList s'.data.toList from HV.out rfl)
        have hless : Op.bytesLess s.toList s'.toList = decide (cmpS s.data.toList s'.data.toList < 0) := by rw [Lib.toList_data, Lib.toList_data, less_iff]
        have heqs : (s.toList == s'.toList) = decide (cmpS s.data.toList s'.data.toList = 0) := by
          rw [Lib.toList_data, Lib.toList_data, Bool.eq_iff_iff]
          simp only [beq_iff_eq, decide_eq_true_eq]
          exact ⟨fun h => by rw [h]; exact cmpS_self _, cmpS_zero _ _⟩
        clear hy3
        rcases cmpS_in s.data.toList s'.data.toList with h | h | h
        · have HZ2 := Lib.hid (HZ.out.trans h)
          have hl : Op.bytesLess s.toList s'.toList = true := by rw [hless, h]; rfl
          clear hless heqs h
          go_wp2_with fail
          go_ret
          exact ⟨ret_int HZ2.out.symm, L1⟩
        · have HZ2 := Lib.hid (HZ.out.trans h)
          have hl : Op.bytesLess s.toList s'.toList = false := by rw [hless, h]; rfl
          have he : (s.toList == s'.toList) = true := by rw [heqs, h]; rfl
          clear hless heqs h
          go_wp2_with fail
          go_ret
          exact ⟨ret_int HZ2.out.symm, L1⟩
        · have HZ2 := Lib.hid (HZ.out.trans h)
          have hl : Op.bytesLess s.toList s'.toList = false := by rw [hless, h]; rfl
          have he : (s.toList == s'.toList) = false := by rw [heqs, h]; rfl
          clear hless heqs h
          go_wp2_with fail
          go_ret
          exact ⟨ret_int HZ2.out.symm, L1⟩
    · have HZ := Lib.hid ((HF.out (by omega)).trans (cmpI_gt hgt))
      have hnl : ¬ x < y := by omega
      have hne : (x == y) = false := by simp; omega
      clear hx3 hy3
      go_wp2_with fail
      go_ret
      exact ⟨ret_int HZ.out.symm, L1⟩
end Go.Proofs.YtmmkkkojbcelhaaDoor
