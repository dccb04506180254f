/- What the rows' list gives at the sentinel of package tag. -/
import Derived.Test.YtnmldploafpbdaaDoorTagB
import Derived.Test.YtnmldploafpbdaaDoorRows
import Derived.Stop.LaidErr
import Derived.LaidSub
namespace Go.Proofs.YtnmldploafpbdaaDoor
open Go.RowKit

theorem wf_u32 (n : Int) (h : (Lit.int .u32 n).wf = true) : 0 ≤ n ∧ n < (4294967296 : Nat) := by
  simp [Lit.wf, IntKind.min, IntKind.max, IntKind.signed, IntKind.bits] at h
  omega
theorem sent20_row (u : TypeId) (h : Tryd.prog.typeName? 3 u = some "*errors.errorString") : u = 88 := by
  have star : "*" ++ "errors.errorString" = "*errors.errorString" := by decide
  exact typeName_ptr_named (nm := "errors.errorString") (by rw [star]; kernel_rfl) (by kernel_rfl) (by decide) u (by rw [star]; exact h)
theorem tagSents {w : World} {r : List (String × DataW Unit)} (hL : laidMet Tryd.prog (("rabbet/tag.errTorn", Rows.laid_rabbet_tag_errTorn) :: r) w) : S20 w := by
  obtain ⟨a, s, hv, _⟩ := laid_sentinel hL (g := 0) (by kernel_rfl) (by kernel_rfl) Tryd.underlying62 sent20_row Tryd.underlying88 Tryd.underlying112 rfl rfl Tryd.underlying9 (by kernel_rfl) (by kernel_rfl)
  have hc : w.cell? ⟨0, 0, none⟩ = some (.iface 88 (.pointer (some a))) := by
    have := World.var?_cell (P := Tryd.prog) (g := 0) (by kernel_rfl) hv 0
    simpa using this
  exact ⟨a, hc⟩
end Go.Proofs.YtnmldploafpbdaaDoor
