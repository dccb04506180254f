/- The walk of ZoneTrue. -/
import Derived.Test.YtmmkkkojbcelhaaDoorZonePlay
import Derived.Test.YtmmkkkojbcelhaaDoorRefCmpZ
import Derived.Deep.RegionHeld3
namespace Go.Proofs.YtmmkkkojbcelhaaDoor
open Go.RowKit
set_option linter.unusedVariables false

set_option maxRecDepth 100000 in
theorem zoneTrue_long (t : Int) (A : Option Addr) (n c : Nat) (op : Int) (M : Option Addr) (m cm : Nat) (w : World) (hs : S11 w) (h : ¬ (n ≤ 60 ∧ m ≤ 5)) :
    Calls Tryd.prog 3 #[.int .u8 t, .slice A n c, .int .u8 op, .slice M m cm] w fun e w' => e = .returned (.bool true) ∧ Later w w' := by
  have HB := Lib.hid (begun11_any w hs)
  clear hs
  go_enter Tryd.func3, Tryd.ntmps3
  go_wp2_with fail
  refine HB.out.mono ?_
  rintro e w1 ⟨rfl, l1⟩
  by_cases h1 : n ≤ 60
  · have d1 : decide ((60 : Int) < (n : Int)) = false := by simp; omega
    have d2 : decide ((5 : Int) < (m : Int)) = true := by simp; omega
    clear h
    go_wp2_with fail
    go_ret
    exact ⟨rfl, l1⟩
  · have d1 : decide ((60 : Int) < (n : Int)) = true := by simp; omega
    clear h
    go_wp2_with fail
    go_ret
    exact ⟨rfl, l1⟩

/-- How the comparison is told, by the test. -/
def tellC (o c : Int) : Bool := if o = 1 then c == 0 else if o = 2 then c != 0 else if o = 3 then decide (c < 0) else if o = 4 then decide (c ≤ 0) else if o = 5 then decide (0 < c) else decide (0 ≤ c)
theorem tellC_between {o c : Int} (h : 1 ≤ o ∧ o ≤ 6) : between o c c = tellC o c := by
  obtain rfl | rfl | rfl | rfl | rfl | rfl : o = 1 ∨ o = 2 ∨ o = 3 ∨ o = 4 ∨ o = 5 ∨ o = 6 := by omega
  · show (decide (c ≤ 0) && decide (0 ≤ c)) = (c == 0)
    rw [Bool.eq_iff_iff]; simp; omega
  · show (decide (c ≠ 0) || decide (c ≠ 0)) = (c != 0)
    rw [Bool.eq_iff_iff]; simp
  all_goals rfl
end Go.Proofs.YtmmkkkojbcelhaaDoor
