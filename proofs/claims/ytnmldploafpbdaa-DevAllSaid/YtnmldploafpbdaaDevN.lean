/- Package dev: what no device tells, blocks that are not there, and a device that has stopped. -/
import Derived.Test.YtnmldploafpbdaaDevM
import Derived.Test.YtnmldploafpbdaaDevI
namespace Go.Proofs.Ytnmldploafpbdaa
open Go.RowKit
set_option linter.unusedVariables false

abbrev nilp : Value := .pointer none
set_option maxRecDepth 100000 in
theorem devNew_no (b : Int) (w : World) (h : ¬ (1 ≤ b ∧ b ≤ 4000)) :
    Calls Try.prog 9 #[.int .i64 b] w fun e w' => e = .returned (.tuple #[nilp, .bool false]) ∧ w' = w := by
  by_cases h1 : b < 1
  · have d1 : decide (b < 1) = true := by simp; omega
    go_enter Try.func9, Try.ntmps9
    go_wp2_with fail
    exact bodyPost_ret (v := .tuple #[nilp, .bool false]) (by simp [results, Try.results9, go_sem]) rfl ⟨rfl, rfl⟩
  · have d1 : decide (b < 1) = false := by simp; omega
    have d2 : decide (4000 < b) = true := by simp; omega
    go_enter Try.func9, Try.ntmps9
    go_wp2_with fail
    exact bodyPost_ret (v := .tuple #[nilp, .bool false]) (by simp [results, Try.results9, go_sem]) rfl ⟨rfl, rfl⟩
set_option maxRecDepth 100000 in
theorem devRead_no (p gn B cn : Nat) (i : Int) (w : World) (h : w.cell? ⟨p, 1, none⟩ = some (.slice (some ⟨gn, 0, none⟩) B cn)) (ho : ¬ (0 ≤ i ∧ i < B)) :
    Calls Try.prog 23 #[dptr p, .int .i64 i] w fun e w' => e = .returned (.tuple #[nilv, .bool false]) ∧ w' = w := by
  have HBL := Lib.hid (devBlocks_any p gn B cn w h)
  clear h
  by_cases h1 : i < 0
  · have d1 : decide (i < 0) = true := by simp; omega
    go_enter Try.func23, Try.ntmps23
    go_wp2_with fail
    exact bodyPost_ret (v := .tuple #[nilv, .bool false]) (by simp [results, Try.results23, go_sem]) rfl ⟨rfl, rfl⟩
  · have d1 : decide (i < 0) = false := by simp; omega
    have d2 : decide ((B : Int) ≤ i) = true := by simp; omega
    go_enter Try.func23, Try.ntmps23
    go_wp2_with fail
    refine HBL.out.mono ?_
    rintro e w' ⟨rfl, rfl⟩
    go_wp2_with fail
    exact bodyPost_ret (v := .tuple #[nilv, .bool false]) (by simp [results, Try.results23, go_sem]) rfl ⟨rfl, rfl⟩
set_option maxRecDepth 100000 in
theorem devFlush_stopped (p : Nat) (s : Bool) (n : Int) (w : World) (h4 : w.cell? ⟨p, 4, none⟩ = some (.bool s)) (h5 : w.cell? ⟨p, 5, none⟩ = some (.int .i64 n)) (hs : (s && decide (n ≤ 0)) = true) :
    Calls Try.prog 11 #[dptr p] w fun e w' => e = .returned (.tuple #[]) ∧ w' = w := by
  have HST := Lib.hid (devStopped_any p s n w h4 h5)
  rw [hs] at HST
  clear h4 h5 hs
  go_enter Try.func11, Try.ntmps11
  go_wp2_with fail
  refine HST.out.mono ?_
  rintro e w' ⟨rfl, rfl⟩
  go_wp2_with fail
  first
    | (go_end0; exact ⟨rfl, rfl⟩)
    | exact bodyPost_ret (v := .tuple #[]) (by simp [results, Try.results11, go_sem]) rfl ⟨rfl, rfl⟩
set_option maxRecDepth 100000 in
theorem nilBlocks (w : World) : Calls Try.prog 28 #[nilp] w fun e w' => e = .returned (.int .i64 0) ∧ w' = w := by
  go_enter Try.func28, Try.ntmps28
  go_wp2_with fail
  go_ret
  exact ⟨rfl, rfl⟩
set_option maxRecDepth 100000 in
theorem nilWrites (w : World) : Calls Try.prog 25 #[nilp] w fun e w' => e = .returned (.int .i64 0) ∧ w' = w := by
  go_enter Try.func25, Try.ntmps25
  go_wp2_with fail
  go_ret
  exact ⟨rfl, rfl⟩
set_option maxRecDepth 100000 in
theorem nilStopped (w : World) : Calls Try.prog 26 #[nilp] w fun e w' => e = .returned (.bool false) ∧ w' = w := by
  go_enter Try.func26, Try.ntmps26
  go_wp2_with fail
  go_ret
  exact ⟨rfl, rfl⟩
set_option maxRecDepth 100000 in
theorem nilCopy (w : World) : Calls Try.prog 17 #[nilp] w fun e w' => e = .returned nilp ∧ w' = w := by
  go_enter Try.func17, Try.ntmps17
  go_wp2_with fail
  go_ret
  exact ⟨rfl, rfl⟩
set_option maxRecDepth 100000 in
theorem nilStop (n : Int) (w : World) : Calls Try.prog 13 #[nilp, .int .i64 n] w fun e w' => e = .returned (.tuple #[]) ∧ w' = w := by
  go_enter Try.func13, Try.ntmps13
  go_wp2_with fail
  first
    | (go_end0; exact ⟨rfl, rfl⟩)
    | exact bodyPost_ret (v := .tuple #[]) (by simp [results, Try.results13, go_sem]) rfl ⟨rfl, rfl⟩
set_option maxRecDepth 100000 in
theorem nilCrash (v : Value) (a b : Int) (w : World) : Calls Try.prog 15 #[nilp, v, .int .i64 a, .int .i64 b] w fun e w' => e = .returned (.tuple #[]) ∧ w' = w := by
  go_enter Try.func15, Try.ntmps15
  go_wp2_with fail
  first
    | (go_end0; exact ⟨rfl, rfl⟩)
    | exact bodyPost_ret (v := .tuple #[]) (by simp [results, Try.results15, go_sem]) rfl ⟨rfl, rfl⟩
set_option maxRecDepth 100000 in
theorem nilFlush (w : World) : Calls Try.prog 11 #[nilp] w fun e w' => e = .returned (.tuple #[]) ∧ w' = w := by
  go_enter Try.func11, Try.ntmps11
  go_wp2_with fail
  first
    | (go_end0; exact ⟨rfl, rfl⟩)
    | exact bodyPost_ret (v := .tuple #[]) (by simp [results, Try.results11, go_sem]) rfl ⟨rfl, rfl⟩
set_option maxRecDepth 100000 in
theorem nilRead (w : World) : Calls Try.prog 23 #[nilp, .int .i64 0] w fun e w' => e = .returned (.tuple #[nilv, .bool false]) ∧ w' = w := by
  have HBL := Lib.hid (nilBlocks w)
  go_enter Try.func23, Try.ntmps23
  go_wp2_with fail
  refine HBL.out.mono ?_
  rintro e w' ⟨rfl, rfl⟩
  go_wp2_with fail
  exact bodyPost_ret (v := .tuple #[nilv, .bool false]) (by simp [results, Try.results23, go_sem]) rfl ⟨rfl, rfl⟩
set_option maxRecDepth 100000 in
theorem nilWrite (A : Option Addr) (n c : Nat) (w : World) : Calls Try.prog 18 #[nilp, .int .i64 0, .slice A n c] w fun e w' => e = .returned (.bool false) ∧ w' = w := by
  have HBL := Lib.hid (nilBlocks w)
  go_enter Try.func18, Try.ntmps18
  go_wp2_with fail
  refine HBL.out.mono ?_
  rintro e w' ⟨rfl, rfl⟩
  go_wp2_with fail
  go_ret
  exact ⟨rfl, rfl⟩
end Go.Proofs.Ytnmldploafpbdaa
