
import Derived.Test.YtphiggjgapaaiaaDoorNumB
import Derived.Test.YtphiggjgapaaiaaDoorRows
import Derived.Stop.LaidErr
import Derived.LaidSub
import Derived.Test.YtphiggjgapaaiaaDoorCell
/- What the row's list gives at the one sentinel of package num. -/

namespace Go.Proofs.YtphiggjgapaaiaaDoor
open Go.RowKit

theorem sent_row (u : TypeId) (h : Tryd.prog.typeName? 3 u = some "*errors.errorString") : u = 121 := by
  have star : "*" ++ "errors.errorString" = "*errors.errorString" := by decide
  exact typeName_ptr_named (nm := "errors.errorString") (by rw [star]; kernel_rfl) (by kernel_rfl) (by decide) u (by rw [star]; exact h)
end Go.Proofs.YtphiggjgapaaiaaDoor

/- What the rows' list gives at the six sentinels. -/

namespace Go.Proofs.YtphiggjgapaaiaaDoor
open Go.RowKit

theorem wf_u16 (n : Int) (h : (Lit.int .u16 n).wf = true) : 0 ≤ n ∧ n < (65536 : Nat) := by
  simp [Lit.wf, IntKind.min, IntKind.max, IntKind.signed, IntKind.bits] at h
  omega
theorem wf_i32 (n : Int) (h : (Lit.int .i32 n).wf = true) : -2147483648 ≤ n ∧ n ≤ 2147483647 := by
  simp [Lit.wf, IntKind.min, IntKind.max, IntKind.signed, IntKind.bits] at h
  omega
theorem wf_i16 (n : Int) (h : (Lit.int .i16 n).wf = true) : -32768 ≤ n ∧ n ≤ 32767 := by
  simp [Lit.wf, IntKind.min, IntKind.max, IntKind.signed, IntKind.bits] at h
  omega
end Go.Proofs.YtphiggjgapaaiaaDoor
