/- What the rows' list gives at the six sentinels, two of them told apart. -/
import Derived.Test.YtldalkhmbpkjpaaGreatDoorSents6
import Derived.Test.YtldalkhmbpkjpaaGreatDoorColA
import Derived.Stop.LaidTwo
namespace Go.Proofs.YtldalkhmbpkjpaaGreatDoor
open Go.RowKit

theorem sentX_row (u : TypeId) (h : Tryz.prog.typeName? 3 u = some "*errors.errorString") : u = 164 := by
  have star : "*" ++ "errors.errorString" = "*errors.errorString" := by decide
  exact typeName_ptr_named (nm := "errors.errorString") (by rw [star]; kernel_rfl) (by kernel_rfl) (by decide) u (by rw [star]; exact h)
theorem tenSents {w : World} {r : List (String × DataW Unit)} (hL : laidMet Tryz.prog (("rabbet/fault.ErrShort", Rows.laid_rabbet_fault_ErrShort) :: ("rabbet/fault.ErrSpare", Rows.laid_rabbet_fault_ErrSpare) :: ("rabbet/fault.ErrValue", Rows.laid_rabbet_fault_ErrValue) :: ("rabbet/fault.ErrType", Rows.laid_rabbet_fault_ErrType) :: ("rabbet/fault.ErrBound", Rows.laid_rabbet_fault_ErrBound) :: ("rabbet/num.errNone", Rows.laid_rabbet_num_errNone) :: r) w) : S10 w := by
  refine ⟨sixSents hL, ?_⟩
  have h := hL.filter (fun x => x.1 == "rabbet/fault.ErrSpare" || x.1 == "rabbet/fault.ErrBound")
  rw [List.filter_cons_of_neg (by decide), List.filter_cons_of_pos (by decide), List.filter_cons_of_neg (by decide), List.filter_cons_of_neg (by decide), List.filter_cons_of_pos (by decide), List.filter_cons_of_neg (by decide)] at h
  obtain ⟨a0, a1, s0, s1, c0, c1, t0, t1, hv0, hv1, _, _, _, _, _, _, hne, hb0, hb1⟩ := laid_sentinels2 h (g0 := 4) (g1 := 3) (by kernel_rfl) (by kernel_rfl) (by kernel_rfl) (by kernel_rfl) Tryz.underlying40 sentX_row Tryz.underlying164 Tryz.underlying189 rfl rfl Tryz.underlying9 (by kernel_rfl) (by kernel_rfl)
  have h0 := World.var?_cell (P := Tryz.prog) (g := 4) (by kernel_rfl) hv0 0
  have h1 := World.var?_cell (P := Tryz.prog) (g := 3) (by kernel_rfl) hv1 0
  have k0 : w.cell? ⟨4, 0, none⟩ = some (.iface 164 (.pointer (some a0))) := by simpa using h0
  have k1 : w.cell? ⟨3, 0, none⟩ = some (.iface 164 (.pointer (some a1))) := by simpa using h1
  exact ⟨a1, a0, ⟨k1, c1, t1, hb1⟩, ⟨k0, c0, t0, hb0⟩, Ne.symm hne⟩
end Go.Proofs.YtldalkhmbpkjpaaGreatDoor
