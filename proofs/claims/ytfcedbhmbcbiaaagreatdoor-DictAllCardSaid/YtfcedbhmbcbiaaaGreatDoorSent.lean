/- What the row's list gives at the one sentinel of package num. -/
import Derived.Test.YtfcedbhmbcbiaaaGreatDoorNumB
import Derived.Test.YtfcedbhmbcbiaaaGreatDoorRows
import Derived.Stop.LaidErr
import Derived.LaidSub
namespace Go.Proofs.YtfcedbhmbcbiaaaGreatDoor
open Go.RowKit

theorem sent_row (u : TypeId) (h : Tryz.prog.typeName? 3 u = some "*errors.errorString") : u = 148 := by
  have star : "*" ++ "errors.errorString" = "*errors.errorString" := by decide
  exact typeName_ptr_named (nm := "errors.errorString") (by rw [star]; kernel_rfl) (by kernel_rfl) (by decide) u (by rw [star]; exact h)
theorem numSent {w : World} {r : List (String × DataW Unit)} (hL : laidMet Tryz.prog (("rabbet/num.errNone", Rows.laid_rabbet_num_errNone) :: r) w) : ∃ a, Sent w w.heap.size a := by
  obtain ⟨a, s, hv, _⟩ := laid_sentinel hL (g := 4) (by kernel_rfl) (by kernel_rfl) Tryz.underlying47 sent_row Tryz.underlying148 Tryz.underlying173 rfl rfl Tryz.underlying9 (by kernel_rfl) (by kernel_rfl)
  have hc : w.cell? ⟨4, 0, none⟩ = some (.iface 148 (.pointer (some a))) := by
    have := World.var?_cell (P := Tryz.prog) (g := 4) (by kernel_rfl) hv 0
    simpa using this
  exact ⟨a, hc, block_lt_of_cell hc⟩
end Go.Proofs.YtfcedbhmbcbiaaaGreatDoor
