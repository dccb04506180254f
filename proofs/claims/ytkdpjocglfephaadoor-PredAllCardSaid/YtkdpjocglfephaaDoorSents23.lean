
import Derived.Test.YtkdpjocglfephaaDoorBatR
import Derived.Test.YtkdpjocglfephaaDoorSents6
import Derived.Test.YtkdpjocglfephaaDoorBase
import Derived.Test.YtkdpjocglfephaaDoorRows
import Derived.LaidLaws
import Derived.Stop.LaidErr
import Derived.LaidSub
import Derived.LaidHandle
import Derived.WalkKit
import Derived.LaidEql
import Derived.Stop.Asserts
import Derived.Stop.IfaceNil
import Derived.RowKitTokens
import Derived.Laws.OwnMore
import Derived.Laws.BytesArg
import Derived.Laws.Rows
import Derived.Deep.AppendLies
import Derived.Deep.Draws
import Derived.Test.YtkdpjocglfephaaDoorChecked
import Derived.Deep.OwnRows
import Derived.Lib.Hide
import Derived.Deep.Quiet
import Derived.Laws.AppendOwnNone
import Derived.Lib.Strings
import Derived.Outline
import Derived.WalkLawsBesides
import Derived.WalkSpells
import Derived.PlainAid
import Derived.Deep.QuietTactic
import Derived.BigQuiet
import Derived.RegionTactic
import Derived.BigRegion
import Derived.Handy
import Derived.Laws.BitsAllLaws
import Derived.Deep.RegionWith
import Derived.Lib.AppendStr
import Derived.Deep.RegionLaw
import Derived.Maps.AppendAt
import Derived.OpenShut
import Derived.WideShapes
import Derived.ChangeArms
import Derived.Deep.Slices
import Derived.Sort.Grow
import Derived.Laws.BitsLemmas
import Derived.Laws.Bits64
import Derived.WalkSmall
import Derived.Lib.Bytealg
import Derived.Deep.SlicePairs
/- What the rows' list gives where it holds the handle of error and three sentinels. -/








namespace Go.Proofs.YtkdpjocglfephaaDoor
open Go.RowKit

theorem et_named : Tryd.prog.globalNamed "errors.errorType" = some 3 := by kernel_rfl
theorem et_rt : (Tryd.prog.cutTypes.find? (·.1 == "internal/reflectlite.rtype")).map (·.2) = some 158 := by kernel_rfl
theorem et_row : ((List.range Tryd.prog.types.size).filter fun t => Tryd.prog.rowNamed t [101, 114, 114, 111, 114]) = [89] := by kernel_rfl
theorem et_hand : typeHandle Tryd.prog 89 = .pointer (some ⟨8, 89, none⟩) := by kernel_rfl
theorem errT_of {w : World} {L : List (String × DataW Unit)} (h : handlesMet Tryd.prog L w) (hm : ("errors.errorType", Rows.laid_errors_errorType) ∈ L) : ErrT w := by
  obtain ⟨name, u, ty, e1, e2, e3, e4, e5⟩ := h _ hm
  have en : name = [101, 114, 114, 111, 114] := (Option.some.inj e1).symm
  subst en
  obtain rfl := Option.some.inj (et_rt.symm.trans e2)
  have hm : ty ∈ (List.range Tryd.prog.types.size).filter fun t => Tryd.prog.rowNamed t [101, 114, 114, 111, 114] := List.mem_filter.2 ⟨List.mem_range.2 e3, e4⟩
  rw [et_row] at hm
  obtain rfl := List.mem_singleton.1 hm
  rw [et_hand] at e5
  unfold ErrT
  simpa using World.var?_cell et_named e5 0
theorem sents23 {w : World} (hL : laidMetH Tryd.prog [("errors.errorType", Rows.laid_errors_errorType), ("rabbet/fault.ErrValue", Rows.laid_rabbet_fault_ErrValue), ("rabbet/fault.ErrType", Rows.laid_rabbet_fault_ErrType), ("rabbet/fault.ErrBound", Rows.laid_rabbet_fault_ErrBound)] w) : ErrT w ∧ S3 w := by
  have h' : laidMet Tryd.prog [("rabbet/fault.ErrValue", Rows.laid_rabbet_fault_ErrValue), ("rabbet/fault.ErrType", Rows.laid_rabbet_fault_ErrType), ("rabbet/fault.ErrBound", Rows.laid_rabbet_fault_ErrBound)] w ∧ handlesMet Tryd.prog [("errors.errorType", Rows.laid_errors_errorType)] w := hL
  refine ⟨errT_of h'.2 (List.mem_singleton.2 rfl), ?_⟩
  have hL := h'.1
  obtain ⟨a2, s2, hv2, _⟩ := laid_sentinel hL (g := 4) (by kernel_rfl) (by kernel_rfl) Tryd.underlying89 sent_row Tryd.underlying184 Tryd.underlying206 rfl rfl Tryd.underlying9 (by kernel_rfl) (by kernel_rfl)
  obtain ⟨a4, s4, hv4, _⟩ := laid_sentinel hL.tail (g := 6) (by kernel_rfl) (by kernel_rfl) Tryd.underlying89 sent_row Tryd.underlying184 Tryd.underlying206 rfl rfl Tryd.underlying9 (by kernel_rfl) (by kernel_rfl)
  obtain ⟨a3, s3, hv3, _⟩ := laid_sentinel hL.tail.tail (g := 5) (by kernel_rfl) (by kernel_rfl) Tryd.underlying89 sent_row Tryd.underlying184 Tryd.underlying206 rfl rfl Tryd.underlying9 (by kernel_rfl) (by kernel_rfl)
  have h2 := World.var?_cell (P := Tryd.prog) (g := 4) (by kernel_rfl) hv2 0
  have h3 := World.var?_cell (P := Tryd.prog) (g := 5) (by kernel_rfl) hv3 0
  have h4 := World.var?_cell (P := Tryd.prog) (g := 6) (by kernel_rfl) hv4 0
  exact ⟨⟨a2, by simpa using h2⟩, ⟨a3, by simpa using h3⟩, ⟨a4, by simpa using h4⟩⟩
end Go.Proofs.YtkdpjocglfephaaDoor
