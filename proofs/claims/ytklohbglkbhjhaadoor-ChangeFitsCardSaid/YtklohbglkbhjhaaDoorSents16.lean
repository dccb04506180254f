
import Derived.Test.YtklohbglkbhjhaaDoorChgE
import Derived.Test.YtklohbglkbhjhaaDoorSents6
import Derived.Test.YtklohbglkbhjhaaDoorBase
import Derived.WalkKit
import Derived.Laws.OwnMore
import Derived.Laws.BytesArg
import Derived.Laws.Rows
import Derived.Deep.AppendLies
import Derived.Deep.Draws
import Derived.Test.YtklohbglkbhjhaaDoorChecked
import Derived.Deep.OwnRows
import Derived.Lib.Hide
import Derived.Deep.Quiet
import Derived.Laws.AppendOwnNone
import Derived.Lib.Strings
import Derived.Outline
import Derived.WalkLawsBesides
import Derived.WalkSpells
import Derived.PlainAid
import Derived.Deep.QuietTactic
import Derived.BigQuiet
import Derived.RegionTactic
import Derived.BigRegion
import Derived.Handy
import Derived.Laws.BitsAllLaws
import Derived.Deep.RegionWith
import Derived.Lib.AppendStr
import Derived.Deep.RegionLaw
import Derived.Maps.AppendAt
import Derived.OpenShut
import Derived.WideShapes
import Derived.ChangeArms
import Derived.Deep.Slices
import Derived.Sort.Grow
import Derived.LaidEql
import Derived.Stop.Asserts
import Derived.RowKitTokens
import Derived.Stop.IfaceNil
import Derived.Laws.BitsLemmas
import Derived.Laws.Bits64
import Derived.WalkSmall
import Derived.Lib.Bytealg
import Derived.Deep.SlicePairs
import Derived.Test.YtklohbglkbhjhaaDoorRows
import Derived.Stop.LaidErr
import Derived.LaidSub
/- What the rows' list gives at the three sentinels of value.check. -/


namespace Go.Proofs.YtklohbglkbhjhaaDoor
open Go.RowKit

theorem sents16 {w : World} (hL : laidMet Tryd.prog [("rabbet/fault.ErrValue", Rows.laid_rabbet_fault_ErrValue), ("rabbet/fault.ErrType", Rows.laid_rabbet_fault_ErrType), ("rabbet/fault.ErrBound", Rows.laid_rabbet_fault_ErrBound)] w) : S3 w := by
  obtain ⟨a2, s2, hv2, _⟩ := laid_sentinel hL (g := 5) (by kernel_rfl) (by kernel_rfl) Tryd.underlying80 sent_row Tryd.underlying143 Tryd.underlying169 rfl rfl Tryd.underlying9 (by kernel_rfl) (by kernel_rfl)
  obtain ⟨a4, s4, hv4, _⟩ := laid_sentinel hL.tail (g := 7) (by kernel_rfl) (by kernel_rfl) Tryd.underlying80 sent_row Tryd.underlying143 Tryd.underlying169 rfl rfl Tryd.underlying9 (by kernel_rfl) (by kernel_rfl)
  obtain ⟨a3, s3, hv3, _⟩ := laid_sentinel hL.tail.tail (g := 6) (by kernel_rfl) (by kernel_rfl) Tryd.underlying80 sent_row Tryd.underlying143 Tryd.underlying169 rfl rfl Tryd.underlying9 (by kernel_rfl) (by kernel_rfl)
  have h2 := World.var?_cell (P := Tryd.prog) (g := 5) (by kernel_rfl) hv2 0
  have h3 := World.var?_cell (P := Tryd.prog) (g := 6) (by kernel_rfl) hv3 0
  have h4 := World.var?_cell (P := Tryd.prog) (g := 7) (by kernel_rfl) hv4 0
  exact ⟨⟨a2, by simpa using h2⟩, ⟨a3, by simpa using h3⟩, ⟨a4, by simpa using h4⟩⟩
end Go.Proofs.YtklohbglkbhjhaaDoor
