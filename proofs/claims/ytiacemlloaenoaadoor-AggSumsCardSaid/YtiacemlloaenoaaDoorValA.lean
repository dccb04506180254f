/- Walks of package value: check, May, Fits, width, rank. -/
import Derived.Test.YtiacemlloaenoaaDoorNumB
import Derived.Test.YtiacemlloaenoaaDoorBase
namespace Go.Proofs.YtiacemlloaenoaaDoor
open Go.RowKit
set_option linter.unusedVariables false

/-- Which values may be. -/
def MayV (t i : Int) (n : Nat) : Prop :=
  (t = 0 ∧ i = 0 ∧ n = 0) ∨ (t = 1 ∧ -32768 ≤ i ∧ i ≤ 32767 ∧ n = 0) ∨ (t = 2 ∧ n = 0) ∨ (t = 3 ∧ 0 ≤ i ∧ i ≤ 1 ∧ n = 0) ∨ (t = 4 ∧ i = 0 ∧ n ≤ 20)

/-- What check tells: nothing, or an error that is not nil. -/
def CheckPost (t i : Int) (n : Nat) (w : World) (e : Ending) (w' : World) : Prop :=
  ((MayV t i n ∧ e = .returned .nilIface) ∨ (¬ MayV t i n ∧ ∃ p, e = .returned (.iface 81 (.pointer (some p))))) ∧ Below w.heap.size w w'

end Go.Proofs.YtiacemlloaenoaaDoor
