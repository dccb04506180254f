/- Walks of the document's answer for bits: width, Width, PutBits. -/
import Derived.Test.YtfcedbhmbcbiaaaDoorBase
import Derived.Test.YtfcedbhmbcbiaaaDoorBitsMath
import Derived.Test.YtfcedbhmbcbiaaaDoorRefMath
namespace Go.Proofs.YtfcedbhmbcbiaaaDoor
open Go.RowKit
set_option linter.unusedVariables false

end Go.Proofs.YtfcedbhmbcbiaaaDoor
