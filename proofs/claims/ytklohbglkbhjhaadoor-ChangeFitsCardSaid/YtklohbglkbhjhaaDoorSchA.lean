
import Derived.Test.YtklohbglkbhjhaaDoorChgE
import Derived.Test.YtklohbglkbhjhaaDoorRowsM
import Derived.Test.YtklohbglkbhjhaaDoorBase
import Derived.WalkKit
import Derived.Laws.OwnMore
import Derived.Laws.BytesArg
import Derived.Laws.Rows
import Derived.Deep.AppendLies
import Derived.Deep.Draws
import Derived.Test.YtklohbglkbhjhaaDoorChecked
import Derived.Deep.OwnRows
import Derived.Lib.Hide
import Derived.Deep.Quiet
import Derived.Laws.AppendOwnNone
import Derived.Lib.Strings
import Derived.Outline
import Derived.WalkLawsBesides
import Derived.WalkSpells
import Derived.PlainAid
import Derived.Deep.QuietTactic
import Derived.BigQuiet
import Derived.RegionTactic
import Derived.BigRegion
import Derived.Handy
import Derived.Laws.BitsAllLaws
import Derived.Deep.RegionWith
import Derived.Lib.AppendStr
import Derived.Deep.RegionLaw
import Derived.Maps.AppendAt
import Derived.OpenShut
import Derived.WideShapes
import Derived.ChangeArms
import Derived.Deep.Slices
import Derived.Sort.Grow
import Derived.LaidEql
import Derived.Stop.Asserts
import Derived.RowKitTokens
import Derived.OrdersHeld
import Derived.Stop.IfaceNil
import Derived.Laws.BitsLemmas
import Derived.Laws.Bits64
import Derived.WalkSmall
import Derived.Lib.Bytealg
import Derived.Deep.SlicePairs
import Derived.Shelf.Abstract
/- schema: MayName, isType, isEncoding, hasID, May, MayLayout. -/



namespace Go.Proofs.YtklohbglkbhjhaaDoor
open Go.RowKit
set_option linter.unusedVariables false

/-- A layout's cells. -/
def lagg (m : Lay4) (E : Option Addr) (en ec : Nat) : Value := .agg #[.int .i64 m.sb, .int .i64 m.pb, .int .i64 m.parts, .slice E en ec]
def ein (l : List Int) : List Value := l.map (Value.int .i64)
theorem ein_len (l : List Int) : (ein l).length = l.length := by simp [ein]
theorem Has.ein {w : World} {A : Option Addr} {l : List Int} (h : Has w A (ein l)) (k : Nat) (hk : k < l.length) : ∃ b off, A = some ⟨b, off, none⟩ ∧ w.cell? ⟨b, off + k, none⟩ = some (.int .i64 l[k]) := by
  obtain ⟨b, off, hA, _, hc⟩ := h.at_ (k := k) (by rw [ein_len]; exact hk)
  refine ⟨b, off, hA, ?_⟩
  rw [hc]; simp [Go.Proofs.YtklohbglkbhjhaaDoor.ein]
end Go.Proofs.YtklohbglkbhjhaaDoor
