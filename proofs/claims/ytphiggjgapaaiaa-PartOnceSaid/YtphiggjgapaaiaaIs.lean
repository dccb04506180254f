/- errors.Is, where the target is a sentinel of errors.New's make and the error is nil, or a *fault.Where that wraps such a sentinel. Go's own text is walked. -/
import Derived.Test.YtphiggjgapaaiaaChecked
import Derived.WalkKit
import Derived.LaidEql
import Derived.Stop.Asserts
import Derived.RowKitTokens
import Derived.Outline
namespace Go.Proofs.Ytphiggjgapaaiaa
open Go.RowKit
set_option linter.unusedVariables false

def cmpExt : Array Value → Sem Value := Extern.ReflectliteType.method fun t => do Extern.Rtype.noPackHeld "Comparable" t; pure (.bool (← typeInfo t).comparable)
end Go.Proofs.Ytphiggjgapaaiaa
