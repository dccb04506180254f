/- What the rows' list gives at the sentinels of law 11. -/
import Derived.Test.YtjphfdjijmpicaaDoorSents6
import Derived.Test.YtjphfdjijmpicaaDoorZoneB
namespace Go.Proofs.YtjphfdjijmpicaaDoor
open Go.RowKit

theorem elevenSents {w : World} {r : List (String × DataW Unit)} (hL : laidMet Tryd.prog (("rabbet/fault.ErrShort", Rows.laid_rabbet_fault_ErrShort) :: ("rabbet/fault.ErrValue", Rows.laid_rabbet_fault_ErrValue) :: ("rabbet/fault.ErrType", Rows.laid_rabbet_fault_ErrType) :: ("rabbet/fault.ErrBound", Rows.laid_rabbet_fault_ErrBound) :: ("rabbet/num.errNone", Rows.laid_rabbet_num_errNone) :: r) w) : S11 w := by
  obtain ⟨a0, s0, hv0, _⟩ := laid_sentinel hL (g := 1) (by kernel_rfl) (by kernel_rfl) Tryd.underlying59 sent_row Tryd.underlying90 Tryd.underlying116 rfl rfl Tryd.underlying9 (by kernel_rfl) (by kernel_rfl)
  obtain ⟨a2, s2, hv2, _⟩ := laid_sentinel hL.tail (g := 2) (by kernel_rfl) (by kernel_rfl) Tryd.underlying59 sent_row Tryd.underlying90 Tryd.underlying116 rfl rfl Tryd.underlying9 (by kernel_rfl) (by kernel_rfl)
  obtain ⟨a4, s4, hv4, _⟩ := laid_sentinel hL.tail.tail (g := 4) (by kernel_rfl) (by kernel_rfl) Tryd.underlying59 sent_row Tryd.underlying90 Tryd.underlying116 rfl rfl Tryd.underlying9 (by kernel_rfl) (by kernel_rfl)
  obtain ⟨a3, s3, hv3, _⟩ := laid_sentinel hL.tail.tail.tail (g := 3) (by kernel_rfl) (by kernel_rfl) Tryd.underlying59 sent_row Tryd.underlying90 Tryd.underlying116 rfl rfl Tryd.underlying9 (by kernel_rfl) (by kernel_rfl)
  have h0 := World.var?_cell (P := Tryd.prog) (g := 1) (by kernel_rfl) hv0 0
  have h2 := World.var?_cell (P := Tryd.prog) (g := 2) (by kernel_rfl) hv2 0
  have h3 := World.var?_cell (P := Tryd.prog) (g := 3) (by kernel_rfl) hv3 0
  have h4 := World.var?_cell (P := Tryd.prog) (g := 4) (by kernel_rfl) hv4 0
  have c0 : w.cell? ⟨1, 0, none⟩ = some (.iface 90 (.pointer (some a0))) := by simpa using h0
  have c2 : w.cell? ⟨2, 0, none⟩ = some (.iface 90 (.pointer (some a2))) := by simpa using h2
  have c3 : w.cell? ⟨3, 0, none⟩ = some (.iface 90 (.pointer (some a3))) := by simpa using h3
  have c4 : w.cell? ⟨4, 0, none⟩ = some (.iface 90 (.pointer (some a4))) := by simpa using h4
  refine ⟨⟨a0, a2, a3, a4, c0, c2, c3, c4, fun g hg => ?_⟩, numSent hL.tail.tail.tail.tail⟩
  simp only [List.mem_cons, List.not_mem_nil, or_false] at hg
  rcases hg with rfl | rfl | rfl | rfl
  · exact block_lt_of_cell c0
  · exact block_lt_of_cell c2
  · exact block_lt_of_cell c3
  · exact block_lt_of_cell c4
end Go.Proofs.YtjphfdjijmpicaaDoor
