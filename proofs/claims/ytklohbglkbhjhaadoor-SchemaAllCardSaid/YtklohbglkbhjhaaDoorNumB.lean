
import Derived.Test.YtklohbglkbhjhaaDoorBase
import Derived.Test.YtklohbglkbhjhaaDoorNumMath
import Derived.Test.YtklohbglkbhjhaaDoorIs
import Derived.Outline
import Derived.WalkLawsBesides
import Derived.WalkSpells
import Derived.PlainAid
import Derived.Lib.Hide
import Derived.Deep.QuietTactic
import Derived.BigQuiet
import Derived.RegionTactic
import Derived.BigRegion
import Derived.Handy
import Derived.Laws.BitsAllLaws
/- Walks of package num: Put, Zig, Zag; and fault.At. -/

namespace Go.Proofs.YtklohbglkbhjhaaDoor
open Go.RowKit
set_option linter.unusedVariables false

theorem at_any (s : ByteArray) (p : Int) (e : Value) (x : Value) (w : World) (he : e = .iface 143 x) :
    Calls Tryd.prog 60 #[.string s, .int .i64 p, e] w fun r w' => r = .returned (.iface 112 (.pointer (some ⟨w.heap.size, 0, none⟩))) ∧ w.alloc (.cells #[.string s, .int .i64 p, .iface 143 x] 114) = w' := by
  subst he
  go_enter Tryd.func60, Tryd.ntmps60
  go_wp2
  go_ret
  exact ⟨rfl, rfl⟩

/-- What a call hands back that makes bytes: a slice of its own. -/
def Makes (l : List Nat) (w : World) (e : Ending) (w' : World) : Prop :=
  ∃ A c, e = .returned (.slice A l.length c) ∧ w'.ownsRow w.heap.size 5 1 (.slice A l.length c) l.length (ints .u8 l) ∧ Below w.heap.size w w' ∧ (A = none → c = 0)

end Go.Proofs.YtklohbglkbhjhaaDoor

/- Walks of package num: read, Take. -/

namespace Go.Proofs.YtklohbglkbhjhaaDoor
open Go.RowKit
set_option linter.unusedVariables false

end Go.Proofs.YtklohbglkbhjhaaDoor
