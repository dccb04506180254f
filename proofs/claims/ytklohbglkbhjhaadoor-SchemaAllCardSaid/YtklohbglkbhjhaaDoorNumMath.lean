
import Derived.Laws.BitsAllLaws
import Derived.Laws.BitsLemmas
import Derived.Laws.Bits64
import Derived.PlainAid
import Derived.WalkSmall
/- Plain mathematics of numbers of few bytes: seven bits a byte, the lowest first. -/
namespace Go.Proofs.YtklohbglkbhjhaaDoor
set_option linter.unusedVariables false

end Go.Proofs.YtklohbglkbhjhaaDoor

/- Exclusive or with all bits, and with none. -/

namespace Go.Proofs.YtklohbglkbhjhaaDoor
open Go.RowKit
set_option linter.unusedVariables false

end Go.Proofs.YtklohbglkbhjhaaDoor

/- Plain mathematics, no program: numbers laid one behind the other, so many bits each ('cat'), and cut again ('chop'); how many bits a number has ('wid'). -/
namespace Go.Proofs.YtklohbglkbhjhaaDoor
set_option linter.unusedVariables false

end Go.Proofs.YtklohbglkbhjhaaDoor

/- Plain mathematics of bits that are laid one behind the other. -/

namespace Go.Proofs.YtklohbglkbhjhaaDoor
set_option linter.unusedVariables false

end Go.Proofs.YtklohbglkbhjhaaDoor

/- Plain mathematics of numbers of few bytes as the reference reads them. -/

namespace Go.Proofs.YtklohbglkbhjhaaDoor
set_option linter.unusedVariables false

end Go.Proofs.YtklohbglkbhjhaaDoor

/- Plain mathematics of the document's own way with bits: one bit at a time. -/

namespace Go.Proofs.YtklohbglkbhjhaaDoor
set_option linter.unusedVariables false

end Go.Proofs.YtklohbglkbhjhaaDoor
