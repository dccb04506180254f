/- What the rows' list gives where it holds the handle of error and the sentinel ErrBound. -/
import Derived.Test.YtlfmmhbaphnifaaRRRRGreatDoorBatC
import Derived.Test.YtlfmmhbaphnifaaRRRRGreatDoorRows
import Derived.LaidLaws
import Derived.Stop.LaidErr
import Derived.LaidSub
import Derived.LaidHandle
namespace Go.Proofs.YtlfmmhbaphnifaaRRRRGreatDoor
open Go.RowKit

theorem e12_named : Tryz.prog.globalNamed "errors.errorType" = some 1 := by kernel_rfl
theorem e12_rt : (Tryz.prog.cutTypes.find? (·.1 == "internal/reflectlite.rtype")).map (·.2) = some 106 := by kernel_rfl
theorem e12_row : ((List.range Tryz.prog.types.size).filter fun t => Tryz.prog.rowNamed t [101, 114, 114, 111, 114]) = [65] := by kernel_rfl
theorem e12_hand : typeHandle Tryz.prog 65 = .pointer (some ⟨2, 65, none⟩) := by kernel_rfl
theorem e12_of {w : World} {L : List (String × DataW Unit)} (h : handlesMet Tryz.prog L w) (hm : ("errors.errorType", Rows.laid_errors_errorType) ∈ L) : ErrT w := by
  obtain ⟨name, u, ty, e1, e2, e3, e4, e5⟩ := h _ hm
  have en : name = [101, 114, 114, 111, 114] := (Option.some.inj e1).symm
  subst en
  obtain rfl := Option.some.inj (e12_rt.symm.trans e2)
  have hm : ty ∈ (List.range Tryz.prog.types.size).filter fun t => Tryz.prog.rowNamed t [101, 114, 114, 111, 114] := List.mem_filter.2 ⟨List.mem_range.2 e3, e4⟩
  rw [e12_row] at hm
  obtain rfl := List.mem_singleton.1 hm
  rw [e12_hand] at e5
  unfold ErrT
  simpa using World.var?_cell e12_named e5 0
theorem e12_sent (u : TypeId) (h : Tryz.prog.typeName? 3 u = some "*errors.errorString") : u = 156 := by
  have star : "*" ++ "errors.errorString" = "*errors.errorString" := by decide
  exact typeName_ptr_named (nm := "errors.errorString") (by rw [star]; kernel_rfl) (by kernel_rfl) (by decide) u (by rw [star]; exact h)
theorem sents12 {w : World} (hL : laidMetH Tryz.prog [("errors.errorType", Rows.laid_errors_errorType), ("rabbet/fault.ErrBound", Rows.laid_rabbet_fault_ErrBound)] w) : S12 w := by
  have h' : laidMet Tryz.prog [("rabbet/fault.ErrBound", Rows.laid_rabbet_fault_ErrBound)] w ∧ handlesMet Tryz.prog [("errors.errorType", Rows.laid_errors_errorType)] w := hL
  refine ⟨e12_of h'.2 (List.mem_singleton.2 rfl), ?_⟩
  obtain ⟨a3, s3, hv3, _⟩ := laid_sentinel h'.1 (g := 0) (by kernel_rfl) (by kernel_rfl) Tryz.underlying65 e12_sent Tryz.underlying156 Tryz.underlying177 rfl rfl Tryz.underlying9 (by kernel_rfl) (by kernel_rfl)
  have h3 := World.var?_cell (P := Tryz.prog) (g := 0) (by kernel_rfl) hv3 0
  exact ⟨a3, by simpa using h3⟩
end Go.Proofs.YtlfmmhbaphnifaaRRRRGreatDoor
