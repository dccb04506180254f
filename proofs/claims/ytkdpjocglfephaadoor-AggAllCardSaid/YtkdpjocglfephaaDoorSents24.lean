
import Derived.Test.YtkdpjocglfephaaDoorCell
import Derived.Test.YtkdpjocglfephaaDoorBase
import Derived.Test.YtkdpjocglfephaaDoorRows
import Derived.Stop.LaidTwo
import Derived.LaidSub
import Derived.WalkKit
import Derived.Laws.OwnMore
import Derived.Laws.BytesArg
import Derived.Laws.Rows
import Derived.Deep.AppendLies
import Derived.Deep.Draws
import Derived.Test.YtkdpjocglfephaaDoorChecked
import Derived.Deep.OwnRows
import Derived.Lib.Hide
import Derived.Deep.Quiet
import Derived.Laws.AppendOwnNone
import Derived.Lib.Strings
import Derived.Outline
import Derived.WalkLawsBesides
import Derived.WalkSpells
import Derived.PlainAid
import Derived.Deep.QuietTactic
import Derived.BigQuiet
import Derived.RegionTactic
import Derived.BigRegion
import Derived.Handy
import Derived.Laws.BitsAllLaws
import Derived.Deep.RegionWith
import Derived.Lib.AppendStr
import Derived.Deep.RegionLaw
import Derived.Maps.AppendAt
import Derived.OpenShut
import Derived.WideShapes
import Derived.ChangeArms
import Derived.Deep.Slices
import Derived.Sort.Grow
import Derived.LaidEql
import Derived.Stop.Asserts
import Derived.RowKitTokens
import Derived.Laws.BitsLemmas
import Derived.Laws.Bits64
import Derived.WalkSmall
import Derived.Stop.IfaceNil
import Derived.Lib.Bytealg
import Derived.Deep.SlicePairs
/- What the rows' list gives at the three sentinels of package agg. -/




namespace Go.Proofs.YtkdpjocglfephaaDoor
open Go.RowKit

theorem sent24_row (u : TypeId) (h : Tryd.prog.typeName? 3 u = some "*errors.errorString") : u = 184 := by
  have star : "*" ++ "errors.errorString" = "*errors.errorString" := by decide
  exact typeName_ptr_named (nm := "errors.errorString") (by rw [star]; kernel_rfl) (by kernel_rfl) (by decide) u (by rw [star]; exact h)
theorem same_ptr {x : Option (Array Value)} {t : TypeId} {a b : Addr} (h : x = some #[.iface t (.pointer (some a))]) (k : x = some #[.iface t (.pointer (some b))]) : a = b := by
  rw [h] at k
  simpa using k
theorem sents24 {w : World} (hL : laidMet Tryd.prog [("rabbet/agg.errArg", Rows.laid_rabbet_agg_errArg), ("rabbet/agg.errType", Rows.laid_rabbet_agg_errType), ("rabbet/agg.errOver", Rows.laid_rabbet_agg_errOver)] w) : ∃ a0 a1 a2, S24 w a0 a1 a2 := by
  have h02 : laidMet Tryd.prog [("rabbet/agg.errArg", Rows.laid_rabbet_agg_errArg), ("rabbet/agg.errOver", Rows.laid_rabbet_agg_errOver)] w := by
    have h := hL.filter (fun x => x.1 != "rabbet/agg.errType")
    rw [List.filter_cons_of_pos (by kernel_rfl), List.filter_cons_of_neg (by rw [Bool.not_eq_true]; kernel_rfl), List.filter_cons_of_pos (by kernel_rfl), List.filter_nil] at h
    exact h
  obtain ⟨a0, a1, s0, s1, c0, c1, t0, t1, hv0, hv1, _, _, _, _, _, _, hne, hb0, hb1⟩ := laid_sentinels2 hL (g0 := 0) (g1 := 1) (by kernel_rfl) (by kernel_rfl) (by kernel_rfl) (by kernel_rfl) Tryd.underlying89 sent24_row Tryd.underlying184 Tryd.underlying206 rfl rfl Tryd.underlying9 (by kernel_rfl) (by kernel_rfl)
  obtain ⟨b1, a2, _, _, _, c2, _, t2, hw1, hv2, _, _, _, _, _, _, hne2, _, hb2⟩ := laid_sentinels2 hL.tail (g0 := 1) (g1 := 2) (by kernel_rfl) (by kernel_rfl) (by kernel_rfl) (by kernel_rfl) Tryd.underlying89 sent24_row Tryd.underlying184 Tryd.underlying206 rfl rfl Tryd.underlying9 (by kernel_rfl) (by kernel_rfl)
  obtain ⟨d0, d2, _, _, _, _, _, _, hx0, hx2, _, _, _, _, _, _, hne3, _, _⟩ := laid_sentinels2 h02 (g0 := 0) (g1 := 2) (by kernel_rfl) (by kernel_rfl) (by kernel_rfl) (by kernel_rfl) Tryd.underlying89 sent24_row Tryd.underlying184 Tryd.underlying206 rfl rfl Tryd.underlying9 (by kernel_rfl) (by kernel_rfl)
  obtain rfl := same_ptr hv1 hw1
  obtain rfl := same_ptr hv0 hx0
  obtain rfl := same_ptr hv2 hx2
  have h0 := World.var?_cell (P := Tryd.prog) (g := 0) (by kernel_rfl) hv0 0
  have h1 := World.var?_cell (P := Tryd.prog) (g := 1) (by kernel_rfl) hv1 0
  have h2 := World.var?_cell (P := Tryd.prog) (g := 2) (by kernel_rfl) hv2 0
  exact ⟨a0, a1, a2, by simpa using h0, by simpa using h1, by simpa using h2, ⟨c0, t0, hb0⟩, ⟨c1, t1, hb1⟩, ⟨c2, t2, hb2⟩, hne, hne3, hne2⟩
end Go.Proofs.YtkdpjocglfephaaDoor
