/- What the rows' list gives at the three sentinels of value.check. -/
import Derived.Test.YtphiggjgapaaiaaDoorMay3
import Derived.Test.YtphiggjgapaaiaaDoorSents6
namespace Go.Proofs.YtphiggjgapaaiaaDoor
open Go.RowKit

theorem sents16 {w : World} (hL : laidMet Tryd.prog [("rabbet/fault.ErrValue", Rows.laid_rabbet_fault_ErrValue), ("rabbet/fault.ErrType", Rows.laid_rabbet_fault_ErrType), ("rabbet/fault.ErrBound", Rows.laid_rabbet_fault_ErrBound)] w) : S3 w := by
  obtain ⟨a2, s2, hv2, _⟩ := laid_sentinel hL (g := 3) (by kernel_rfl) (by kernel_rfl) Tryd.underlying67 sent_row Tryd.underlying121 Tryd.underlying147 rfl rfl Tryd.underlying9 (by kernel_rfl) (by kernel_rfl)
  obtain ⟨a4, s4, hv4, _⟩ := laid_sentinel hL.tail (g := 5) (by kernel_rfl) (by kernel_rfl) Tryd.underlying67 sent_row Tryd.underlying121 Tryd.underlying147 rfl rfl Tryd.underlying9 (by kernel_rfl) (by kernel_rfl)
  obtain ⟨a3, s3, hv3, _⟩ := laid_sentinel hL.tail.tail (g := 4) (by kernel_rfl) (by kernel_rfl) Tryd.underlying67 sent_row Tryd.underlying121 Tryd.underlying147 rfl rfl Tryd.underlying9 (by kernel_rfl) (by kernel_rfl)
  have h2 := World.var?_cell (P := Tryd.prog) (g := 3) (by kernel_rfl) hv2 0
  have h3 := World.var?_cell (P := Tryd.prog) (g := 4) (by kernel_rfl) hv3 0
  have h4 := World.var?_cell (P := Tryd.prog) (g := 5) (by kernel_rfl) hv4 0
  exact ⟨⟨a2, by simpa using h2⟩, ⟨a3, by simpa using h3⟩, ⟨a4, by simpa using h4⟩⟩
end Go.Proofs.YtphiggjgapaaiaaDoor
