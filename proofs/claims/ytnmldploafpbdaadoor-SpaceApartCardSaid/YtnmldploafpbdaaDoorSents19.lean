/- What the rows' list gives at the two sentinels of package space. -/
import Derived.Test.YtnmldploafpbdaaDoorSpaceB
import Derived.Test.YtnmldploafpbdaaDoorRows
import Derived.Stop.LaidTwo
import Derived.LaidSub
namespace Go.Proofs.YtnmldploafpbdaaDoor
open Go.RowKit

theorem sent19_row (u : TypeId) (h : Tryd.prog.typeName? 3 u = some "*errors.errorString") : u = 88 := by
  have star : "*" ++ "errors.errorString" = "*errors.errorString" := by decide
  exact typeName_ptr_named (nm := "errors.errorString") (by rw [star]; kernel_rfl) (by kernel_rfl) (by decide) u (by rw [star]; exact h)
theorem spaceSents {w : World} {r : List (String × DataW Unit)} (hL : laidMet Tryd.prog (("rabbet/space.errBeyond", Rows.laid_rabbet_space_errBeyond) :: ("rabbet/space.errOther", Rows.laid_rabbet_space_errOther) :: r) w) : ∃ aB aO, S19 w aB aO := by
  obtain ⟨a0, a1, s0, s1, c0, c1, t0, t1, hv0, hv1, _, _, _, _, _, _, hne, hb0, hb1⟩ := laid_sentinels2 hL (g0 := 1) (g1 := 2) (by kernel_rfl) (by kernel_rfl) (by kernel_rfl) (by kernel_rfl) Tryd.underlying62 sent19_row Tryd.underlying88 Tryd.underlying112 rfl rfl Tryd.underlying9 (by kernel_rfl) (by kernel_rfl)
  have h0 := World.var?_cell (P := Tryd.prog) (g := 1) (by kernel_rfl) hv0 0
  have h1 := World.var?_cell (P := Tryd.prog) (g := 2) (by kernel_rfl) hv1 0
  have k0 : w.cell? ⟨1, 0, none⟩ = some (.iface 88 (.pointer (some a0))) := by simpa using h0
  have k1 : w.cell? ⟨2, 0, none⟩ = some (.iface 88 (.pointer (some a1))) := by simpa using h1
  exact ⟨a0, a1, ⟨k0, c0, t0, hb0⟩, ⟨k1, c1, t1, hb1⟩, hne⟩
end Go.Proofs.YtnmldploafpbdaaDoor
