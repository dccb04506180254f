/- value.Compare, in a seat without value.width (where XValB .. XValCmp do not serve; never beside them). -/
import Derived.Test.YtiacemlloaenoaaDoorPlainMath
import Derived.Test.YtiacemlloaenoaaDoorCell
import Derived.Test.YtiacemlloaenoaaDoorShelf
import Derived.Test.YtiacemlloaenoaaDoorBase
namespace Go.Proofs.YtiacemlloaenoaaDoor
open Go.RowKit
set_option linter.unusedVariables false

theorem rank_any (t i : Int) (s : ByteArray) (w : World) : Calls Tryd.prog 31 #[.agg #[.int .i64 t, .int .i64 i, .string s]] w fun e w' => e = .returned (.int .i64 (rankV t)) ∧ Grows w w' := by
  have HE1 := Lib.hid (fun o : Obj => Grows.new w o)
  go_enter Tryd.func31, Tryd.ntmps31
  go_wp2_with fail
  all_goals go_ret
  all_goals simp only [beq_iff_eq, beq_eq_false_iff_ne, ne_eq] at *
  all_goals exact ⟨ret_int (by simp [rankV, *]), HE1.out _⟩
theorem nan_int (a : Int) (w : World) : Calls Tryd.prog 37 #[.int .i64 a] w fun e w' => e = .returned (.bool false) ∧ w = w' := by
  have h : (a != a) = false := by simp
  go_enter Tryd.func37, Tryd.ntmps37
  go_wp2_with fail
  go_ret
  exact ⟨rfl, rfl⟩
theorem nan_int64 (a : Int) (w : World) : Calls Tryd.prog 39 #[.int .i64 a] w fun e w' => e = .returned (.bool false) ∧ w = w' := by
  have h : (a != a) = false := by simp
  go_enter Tryd.func39, Tryd.ntmps39
  go_wp2_with fail
  go_ret
  exact ⟨rfl, rfl⟩
theorem cmp_int (a b : Int) (w : World) : Calls Tryd.prog 32 #[.int .i64 a, .int .i64 b] w fun e w' => e = .returned (.int .i64 (cmpI a b)) ∧ w = w' := by
  go_enter Tryd.func32, Tryd.ntmps32
  go_wp2_with (go_at_call 37; refine (nan_int _ w).mono ?_; rintro e w' ⟨rfl, rfl⟩)
  all_goals go_ret
  all_goals exact ⟨ret_int (by unfold cmpI; split <;> (try split) <;> omega), rfl⟩
theorem cmp_int64 (a b : Int) (w : World) : Calls Tryd.prog 34 #[.int .i64 a, .int .i64 b] w fun e w' => e = .returned (.int .i64 (cmpI a b)) ∧ w = w' := by
  go_enter Tryd.func34, Tryd.ntmps34
  go_wp2_with (go_at_call 39; refine (nan_int64 _ w).mono ?_; rintro e w' ⟨rfl, rfl⟩)
  all_goals go_ret
  all_goals exact ⟨ret_int (by unfold cmpI; split <;> (try split) <;> omega), rfl⟩
theorem strings_cmp (a b : ByteArray) (w : World) : Calls Tryd.prog 33 #[.string a, .string b] w fun e w' => e = .returned (.int .i64 (cmpS a.data.toList b.data.toList)) ∧ w = w' :=
  (Tryd.strings_Compare a b w).mono fun e w' h => ⟨h.1, h.2.symm⟩
theorem rank_l (t i : Int) (s : ByteArray) (w : World) : Calls Tryd.prog 31 #[vagg t i s] w fun e w' => e = .returned (.int .i64 (rankV t)) ∧ Grows w w' := rank_any t i s w
/-- What a call tells that gives a number and leaves what was there; and one that has grown alone. -/
def TellsInt (v : Int) (w : World) (e : Ending) (w' : World) : Prop := e = .returned (.int .i64 v) ∧ Later w w'
def GrowsInt (v : Int) (w : World) (e : Ending) (w' : World) : Prop := e = .returned (.int .i64 v) ∧ Grows w w'

set_option maxRecDepth 100000 in
set_option maxHeartbeats 1000000 in
theorem valCmp_g (t i : Int) (s : ByteArray) (t' i' : Int) (s' : ByteArray) (w : World) :
    Calls Tryd.prog 24 #[vagg t i s, vagg t' i' s'] w (GrowsInt (cmpV t i s t' i' s') w) := by
  obtain ⟨w1, hw1⟩ : ∃ w1 : World, (w.alloc (.cells #[.int .i64 t, .int .i64 i, .string s] 40)).alloc (.cells #[.int .i64 t', .int .i64 i', .string s'] 40) = w1 := ⟨_, rfl⟩
  have L1 : Grows w w1 := hw1 ▸ ((Grows.refl w).alloc _).alloc _
  have A1 : Blk w1 w.heap.size #[.int .i64 t, .int .i64 i, .string s] 40 := hw1 ▸ (Blk.new w _ _ _ rfl).later (Later.new _ _)
  have B1 : Blk w1 (w.heap.size + 1) #[.int .i64 t', .int .i64 i', .string s'] 40 := hw1 ▸ Blk.new _ _ _ _ (by simp)
  have HW := Lib.hid hw1
  have HR1 := Lib.hid (rank_l t i s w1)
  clear hw1
  go_enter Tryd.func24, Tryd.ntmps24
  go_wp2_with fail
  rw [HW.out]
  refine HR1.out.mono ?_
  rintro e w2 ⟨rfl, l2⟩
  have A2 := A1.later l2.later
  have B2 := B1.later l2.later
  have L2 := L1.trans l2
  have hb0 := B2.cell 0 _ rfl
  have hb1 := B2.cell 1 _ rfl
  have hb2 := B2.cell 2 _ rfl
  clear HW HR1 A1 B1 L1 l2
  go_wp2_with fail
  refine (rank_l t' i' s' w2).mono ?_
  rintro e w3 ⟨rfl, l3⟩
  have A3 := A2.later l3.later
  have B3 := B2.later l3.later
  have L3 := L2.trans l3
  clear hb0 hb1 hb2 A2 B2 L2 l3
  go_wp2_with fail
  refine (cmp_int _ _ w3).mono ?_
  rintro e w' ⟨rfl, rfl⟩
  by_cases hrr : rankV t = rankV t'
  · have e0 : cmpI (rankV t) (rankV t') = 0 := cmpI_eq hrr
    rw [e0]
    have hin := rankV_in t
    have HV := Lib.hid (cmpV_near (i := i) (s := s) (i' := i') (s' := s') hrr)
    have hr4 : rankV 4 = 2 := by decide
    clear e0 hrr
    by_cases h0 : rankV t = 0
    · rw [h0]
      have HZ := Lib.hid (show cmpV t i s t' i' s' = 0 from by rw [HV.out, if_pos h0])
      clear hin h0 hr4
      go_wp2_with fail
      go_ret
      exact ⟨ret_int HZ.out.symm, L3⟩
    · by_cases h2 : rankV t = 2
      · rw [h2]
        have HZ := Lib.hid (show cmpV t i s t' i' s' = cmpS s.data.toList s'.data.toList from by rw [HV.out, if_neg h0, if_pos h2])
        have HR := Lib.hid (rank_l 4 0 ⟨#[]⟩ w3)
        have H4 := Lib.hid hr4
        clear hin h0 h2 hr4
        go_wp2_with fail
        refine HR.out.mono ?_
        rintro e w4 ⟨rfl, l4⟩
        rw [H4.out]
        have A4 := A3.later l4.later
        have B4 := B3.later l4.later
        have L4 := L3.trans l4
        have ha := A4.cell 2 _ rfl
        have hb := B4.cell 2 _ rfl
        clear A3 B3 L3 l4 HR
        go_wp2_with fail
        refine (strings_cmp _ _ w4).mono ?_
        rintro e w' ⟨rfl, rfl⟩
        clear ha hb
        go_wp2_with fail
        go_ret
        exact ⟨ret_int HZ.out.symm, L4⟩
      · have h1 : rankV t = 1 := by rcases hin with h | h | h <;> omega
        rw [h1]
        have HZ := Lib.hid (show cmpV t i s t' i' s' = cmpI i i' from by rw [HV.out, if_neg h0, if_neg h2])
        have HR := Lib.hid (rank_l 4 0 ⟨#[]⟩ w3)
        have H4 := Lib.hid hr4
        clear hin h0 h1 h2 hr4
        go_wp2_with fail
        refine HR.out.mono ?_
        rintro e w4 ⟨rfl, l4⟩
        rw [H4.out]
        have A4 := A3.later l4.later
        have B4 := B3.later l4.later
        have L4 := L3.trans l4
        have ha := A4.cell 1 _ rfl
        have hb := B4.cell 1 _ rfl
        clear A3 B3 L3 l4 HR
        go_wp2_with fail
        refine (cmp_int64 _ _ w4).mono ?_
        rintro e w' ⟨rfl, rfl⟩
        clear ha hb
        go_wp2_with fail
        go_ret
        exact ⟨ret_int HZ.out.symm, L4⟩
  · have HV := Lib.hid (cmpV_far (i := i) (s := s) (i' := i') (s' := s') hrr)
    obtain ⟨z, hz⟩ : ∃ z, z = cmpI (rankV t) (rankV t') := ⟨_, rfl⟩
    have hz0 : (z != 0) = true := by
      rw [hz]; rcases cmpI_in (rankV t) (rankV t') with h | h | h
      · rw [h.2]; rfl
      · exact absurd h.1 hrr
      · rw [h.2]; rfl
    have hz1 : (z == 0) = false := by simpa using hz0
    rw [← hz] at HV ⊢
    clear hz hrr
    go_wp2_with fail
    go_ret
    exact ⟨ret_int HV.out.symm, L3⟩
theorem valCmp_any (t i : Int) (s : ByteArray) (t' i' : Int) (s' : ByteArray) (w : World) :
    Calls Tryd.prog 24 #[vagg t i s, vagg t' i' s'] w (TellsInt (cmpV t i s t' i' s') w) := (valCmp_g t i s t' i' s' w).mono fun _ _ h => ⟨h.1, h.2.later⟩
end Go.Proofs.YtiacemlloaenoaaDoor
