
import Derived.Test.YtjphfdjijmpicaaDoorNumB
import Derived.Test.YtjphfdjijmpicaaDoorRows
import Derived.Stop.LaidErr
import Derived.LaidSub
import Derived.Test.YtjphfdjijmpicaaDoorCell
/- What the row's list gives at the one sentinel of package num. -/

namespace Go.Proofs.YtjphfdjijmpicaaDoor
open Go.RowKit

theorem sent_row (u : TypeId) (h : Tryd.prog.typeName? 3 u = some "*errors.errorString") : u = 90 := by
  have star : "*" ++ "errors.errorString" = "*errors.errorString" := by decide
  exact typeName_ptr_named (nm := "errors.errorString") (by rw [star]; kernel_rfl) (by kernel_rfl) (by decide) u (by rw [star]; exact h)
theorem numSent {w : World} {r : List (String × DataW Unit)} (hL : laidMet Tryd.prog (("rabbet/num.errNone", Rows.laid_rabbet_num_errNone) :: r) w) : ∃ a, Sent w w.heap.size a := by
  obtain ⟨a, s, hv, _⟩ := laid_sentinel hL (g := 0) (by kernel_rfl) (by kernel_rfl) Tryd.underlying59 sent_row Tryd.underlying90 Tryd.underlying116 rfl rfl Tryd.underlying9 (by kernel_rfl) (by kernel_rfl)
  have hc : w.cell? ⟨0, 0, none⟩ = some (.iface 90 (.pointer (some a))) := by
    have := World.var?_cell (P := Tryd.prog) (g := 0) (by kernel_rfl) hv 0
    simpa using this
  exact ⟨a, hc, block_lt_of_cell hc⟩
end Go.Proofs.YtjphfdjijmpicaaDoor

/- What the rows' list gives at the six sentinels. -/

namespace Go.Proofs.YtjphfdjijmpicaaDoor
open Go.RowKit

theorem wf_u16 (n : Int) (h : (Lit.int .u16 n).wf = true) : 0 ≤ n ∧ n < (65536 : Nat) := by
  simp [Lit.wf, IntKind.min, IntKind.max, IntKind.signed, IntKind.bits] at h
  omega
theorem wf_i32 (n : Int) (h : (Lit.int .i32 n).wf = true) : -2147483648 ≤ n ∧ n ≤ 2147483647 := by
  simp [Lit.wf, IntKind.min, IntKind.max, IntKind.signed, IntKind.bits] at h
  omega
theorem wf_i16 (n : Int) (h : (Lit.int .i16 n).wf = true) : -32768 ≤ n ∧ n ≤ 32767 := by
  simp [Lit.wf, IntKind.min, IntKind.max, IntKind.signed, IntKind.bits] at h
  omega
end Go.Proofs.YtjphfdjijmpicaaDoor
