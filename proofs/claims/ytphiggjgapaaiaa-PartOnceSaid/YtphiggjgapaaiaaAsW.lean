/- errors.As at a target **fault.Where, where the error is a *fault.Where. Go's own text is walked. -/
import Derived.Test.YtphiggjgapaaiaaAs
namespace Go.Proofs.Ytphiggjgapaaiaa
open Go.RowKit Go.Extern.Stop Go.Stop Go.Extern
set_option linter.unusedVariables false

end Go.Proofs.Ytphiggjgapaaiaa
