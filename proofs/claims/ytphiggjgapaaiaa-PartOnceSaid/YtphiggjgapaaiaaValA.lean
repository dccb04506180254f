/- Walks of package value: check, May, Fits, width, rank. -/
import Derived.Test.YtphiggjgapaaiaaNumB
import Derived.Test.YtphiggjgapaaiaaBase
namespace Go.Proofs.Ytphiggjgapaaiaa
open Go.RowKit
set_option linter.unusedVariables false

/-- Which values may be. -/
def MayV (t i : Int) (n : Nat) : Prop :=
  (t = 0 ∧ i = 0 ∧ n = 0) ∨ (t = 1 ∧ -32768 ≤ i ∧ i ≤ 32767 ∧ n = 0) ∨ (t = 2 ∧ n = 0) ∨ (t = 3 ∧ 0 ≤ i ∧ i ≤ 1 ∧ n = 0) ∨ (t = 4 ∧ i = 0 ∧ n ≤ 20)

end Go.Proofs.Ytphiggjgapaaiaa
