/- fault.At with a sentinel. -/
import Derived.Test.YtbmlipandjbbbabDoorIs
import Derived.Test.YtbmlipandjbbbabDoorTac
namespace Go.Proofs.YtbmlipandjbbbabDoor
open Go.RowKit
set_option linter.unusedVariables false

theorem at_any (s : ByteArray) (p : Int) (e : Value) (x : Value) (w : World) (he : e = .iface 65 x) :
    Calls Tryd.prog 19 #[.string s, .int .i64 p, e] w fun r w' => r = .returned (.iface 50 (.pointer (some ⟨w.heap.size, 0, none⟩))) ∧ w.alloc (.cells #[.string s, .int .i64 p, .iface 65 x] 52) = w' := by
  subst he
  go_enter Tryd.func19, Tryd.ntmps19
  go_wp2
  go_ret
  exact ⟨rfl, rfl⟩
end Go.Proofs.YtbmlipandjbbbabDoor
