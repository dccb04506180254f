/- What the rows' list gives at log's sentinels: the handle of error, tag.errTorn, log.errWhole. -/
import Derived.Test.YtfplppldojlanaaDoorLogA
import Derived.Test.YtfplppldojlanaaDoorRows
import Derived.LaidLaws
import Derived.Stop.LaidErr
import Derived.LaidSub
import Derived.LaidHandle
namespace Go.Proofs.YtfplppldojlanaaDoor
open Go.RowKit

theorem et_named : Tryd.prog.globalNamed "errors.errorType" = some 1 := by kernel_rfl
theorem et_rt : (Tryd.prog.cutTypes.find? (·.1 == "internal/reflectlite.rtype")).map (·.2) = some 112 := by kernel_rfl
theorem et_row : ((List.range Tryd.prog.types.size).filter fun t => Tryd.prog.rowNamed t [101, 114, 114, 111, 114]) = [57] := by kernel_rfl
theorem et_hand : typeHandle Tryd.prog 57 = .pointer (some ⟨3, 57, none⟩) := by kernel_rfl
theorem errT_of {w : World} {L : List (String × DataW Unit)} (h : handlesMet Tryd.prog L w) (hm : ("errors.errorType", Rows.laid_errors_errorType) ∈ L) : ErrT w := by
  obtain ⟨name, u, ty, e1, e2, e3, e4, e5⟩ := h _ hm
  have en : name = [101, 114, 114, 111, 114] := (Option.some.inj e1).symm
  subst en
  obtain rfl := Option.some.inj (et_rt.symm.trans e2)
  have hm : ty ∈ (List.range Tryd.prog.types.size).filter fun t => Tryd.prog.rowNamed t [101, 114, 114, 111, 114] := List.mem_filter.2 ⟨List.mem_range.2 e3, e4⟩
  rw [et_row] at hm
  obtain rfl := List.mem_singleton.1 hm
  rw [et_hand] at e5
  unfold ErrT
  simpa using World.var?_cell et_named e5 0
theorem wf_u32 (n : Int) (h : (Lit.int .u32 n).wf = true) : 0 ≤ n ∧ n < (4294967296 : Nat) := by
  simp [Lit.wf, IntKind.min, IntKind.max, IntKind.signed, IntKind.bits] at h
  omega
theorem sent20_row (u : TypeId) (h : Tryd.prog.typeName? 3 u = some "*errors.errorString") : u = 131 := by
  have star : "*" ++ "errors.errorString" = "*errors.errorString" := by decide
  exact typeName_ptr_named (nm := "errors.errorString") (by rw [star]; kernel_rfl) (by kernel_rfl) (by decide) u (by rw [star]; exact h)
theorem tagSents {w : World} {r : List (String × DataW Unit)} (hL : laidMet Tryd.prog (("rabbet/tag.errTorn", Rows.laid_rabbet_tag_errTorn) :: r) w) : S20 w := by
  obtain ⟨a, s, hv, _⟩ := laid_sentinel hL (g := 2) (by kernel_rfl) (by kernel_rfl) Tryd.underlying57 sent20_row Tryd.underlying131 Tryd.underlying151 rfl rfl Tryd.underlying9 (by kernel_rfl) (by kernel_rfl)
  have hc : w.cell? ⟨2, 0, none⟩ = some (.iface 131 (.pointer (some a))) := by
    have := World.var?_cell (P := Tryd.prog) (g := 2) (by kernel_rfl) hv 0
    simpa using this
  exact ⟨a, hc⟩
theorem sents21 {w : World} (hL : laidMetH Tryd.prog [("errors.errorType", Rows.laid_errors_errorType), ("rabbet/tag.errTorn", Rows.laid_rabbet_tag_errTorn), ("rabbet/log.errWhole", Rows.laid_rabbet_log_errWhole)] w) : ∃ a, S21 w a := by
  have h' : laidMet Tryd.prog [("rabbet/tag.errTorn", Rows.laid_rabbet_tag_errTorn), ("rabbet/log.errWhole", Rows.laid_rabbet_log_errWhole)] w ∧ handlesMet Tryd.prog [("errors.errorType", Rows.laid_errors_errorType)] w := hL
  have hT := errT_of h'.2 (List.mem_singleton.2 rfl)
  have h20 := tagSents h'.1
  obtain ⟨a, s, hv, _⟩ := laid_sentinel h'.1.tail (g := 0) (by kernel_rfl) (by kernel_rfl) Tryd.underlying57 sent20_row Tryd.underlying131 Tryd.underlying151 rfl rfl Tryd.underlying9 (by kernel_rfl) (by kernel_rfl)
  have hc : w.cell? ⟨0, 0, none⟩ = some (.iface 131 (.pointer (some a))) := by
    have := World.var?_cell (P := Tryd.prog) (g := 0) (by kernel_rfl) hv 0
    simpa using this
  exact ⟨a, h20, hT, hc⟩
end Go.Proofs.YtfplppldojlanaaDoor
