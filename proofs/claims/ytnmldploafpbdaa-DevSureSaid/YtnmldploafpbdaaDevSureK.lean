/- DevSure where too much came in. -/
import Derived.Test.YtnmldploafpbdaaDevSureM
namespace Go.Proofs.Ytnmldploafpbdaa
open Go.RowKit
set_option linter.unusedVariables false

set_option maxRecDepth 100000 in
set_option maxHeartbeats 1000000 in
theorem devSure_skip (A B KA : Option Addr) (n ca m cb kn kc : Nat) (LA LB : List DeedS) (torn at_ : Int) (w : World) (hA : IsDeeds7 w A n ca LA) (hB : IsDeeds7 w B m cb LB) (h : lightL LA = false ∨ lightL LA = true ∧ (lightL LB = false ∨ lightL LB = true ∧ 20 < kn)) :
    Calls Try.prog 4 #[.slice A n ca, .slice B m cb, .slice KA kn kc, .int .i64 torn, .int .i64 at_] w fun e w' => e = .returned (.bool true) ∧ Later w w' := by
  have HB := Lib.hid (begun18_any w)
  have HA := Lib.hid hA
  have HBB := Lib.hid hB
  clear hA hB
  go_enter Try.func4, Try.ntmps4
  go_wp2_with fail
  refine HB.out.mono ?_
  rintro e w1 ⟨rfl, l1⟩
  have HL1 := Lib.hid l1
  rcases h with h | ⟨h1, h | ⟨h2, h⟩⟩
  · have H1 := Lib.hid (by have g := light_any A n ca LA w1 (HA.out.later l1); rw [h] at g; exact g)
    clear l1 HB h
    go_wp2_with fail
    refine H1.out.mono ?_
    rintro e w' ⟨rfl, rfl⟩
    go_wp2_with fail
    go_ret
    exact ⟨rfl, HL1.out⟩
  · have H1 := Lib.hid (by have g := light_any A n ca LA w1 (HA.out.later l1); rw [h1] at g; exact g)
    have H2 := Lib.hid (by have g := light_any B m cb LB w1 (HBB.out.later l1); rw [h] at g; exact g)
    clear l1 HB h h1
    go_wp2_with fail
    refine H1.out.mono ?_
    rintro e w' ⟨rfl, rfl⟩
    go_wp2_with fail
    refine H2.out.mono ?_
    rintro e w' ⟨rfl, rfl⟩
    go_wp2_with fail
    go_ret
    exact ⟨rfl, HL1.out⟩
  · have H1 := Lib.hid (by have g := light_any A n ca LA w1 (HA.out.later l1); rw [h1] at g; exact g)
    have H2 := Lib.hid (by have g := light_any B m cb LB w1 (HBB.out.later l1); rw [h2] at g; exact g)
    have d1 : decide ((20 : Int) < (kn : Int)) = true := by simp; omega
    clear l1 HB h h1 h2
    go_wp2_with fail
    refine H1.out.mono ?_
    rintro e w' ⟨rfl, rfl⟩
    go_wp2_with fail
    refine H2.out.mono ?_
    rintro e w' ⟨rfl, rfl⟩
    go_wp2_with fail
    go_ret
    exact ⟨rfl, HL1.out⟩
end Go.Proofs.Ytnmldploafpbdaa
