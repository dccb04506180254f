/- What the row's list gives at the two sentinels of law 4. -/
import Derived.Test.YtbmlipandjbbbabDoorNullsD
import Derived.Test.YtbmlipandjbbbabDoorRows
import Derived.Stop.LaidTwo
import Derived.LaidSub
namespace Go.Proofs.YtbmlipandjbbbabDoor
open Go.RowKit

theorem sent_row (u : TypeId) (h : Tryd.prog.typeName? 3 u = some "*errors.errorString") : u = 65 := by
  have star : "*" ++ "errors.errorString" = "*errors.errorString" := by decide
  exact typeName_ptr_named (nm := "errors.errorString") (by rw [star]; kernel_rfl) (by kernel_rfl) (by decide) u (by rw [star]; exact h)
theorem twoSents {w : World} {r : List (String × DataW Unit)} (hL : laidMet Tryd.prog (("rabbet/fault.ErrSpare", Rows.laid_rabbet_fault_ErrSpare) :: ("rabbet/fault.ErrBound", Rows.laid_rabbet_fault_ErrBound) :: r) w) : ∃ aB aS, Sn w aB aS := by
  obtain ⟨a0, a1, s0, s1, c0, c1, t0, t1, hv0, hv1, _, _, _, _, _, _, hne, hb0, hb1⟩ := laid_sentinels2 hL (g0 := 1) (g1 := 0) (by kernel_rfl) (by kernel_rfl) (by kernel_rfl) (by kernel_rfl) Tryd.underlying34 sent_row Tryd.underlying65 Tryd.underlying91 rfl rfl Tryd.underlying9 (by kernel_rfl) (by kernel_rfl)
  have h0 := World.var?_cell (P := Tryd.prog) (g := 1) (by kernel_rfl) hv0 0
  have h1 := World.var?_cell (P := Tryd.prog) (g := 0) (by kernel_rfl) hv1 0
  have k0 : w.cell? ⟨1, 0, none⟩ = some (.iface 65 (.pointer (some a0))) := by simpa using h0
  have k1 : w.cell? ⟨0, 0, none⟩ = some (.iface 65 (.pointer (some a1))) := by simpa using h1
  exact ⟨a1, a0, ⟨k1, c1, t1, hb1⟩, ⟨k0, c0, t0, hb0⟩, Ne.symm hne⟩
end Go.Proofs.YtbmlipandjbbbabDoor
