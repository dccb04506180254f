/- fault.At with a sentinel. -/
import Derived.Test.YtnmldploafpbdaaDoorIs
import Derived.Test.YtnmldploafpbdaaDoorBase
namespace Go.Proofs.YtnmldploafpbdaaDoor
open Go.RowKit
set_option linter.unusedVariables false

theorem at_any (s : ByteArray) (p : Int) (e : Value) (x : Value) (w : World) (he : e = .iface 88 x) :
    Calls Tryd.prog 40 #[.string s, .int .i64 p, e] w fun r w' => r = .returned (.iface 74 (.pointer (some ⟨w.heap.size, 0, none⟩))) ∧ w.alloc (.cells #[.string s, .int .i64 p, .iface 88 x] 76) = w' := by
  subst he
  go_enter Tryd.func40, Tryd.ntmps40
  go_wp2
  go_ret
  exact ⟨rfl, rfl⟩
end Go.Proofs.YtnmldploafpbdaaDoor
