/- Package log: Open where there is no log. -/
import Derived.Test.YtfplppldojlanaaDoorLogO
namespace Go.Proofs.YtfplppldojlanaaDoor
open Go.RowKit
set_option linter.unusedVariables false

set_option maxRecDepth 100000 in
theorem logOpen_nil (area : Int) (w : World) (hg : ErrT w) : Calls Tryd.prog 12 #[.pointer none, .int .i64 area] w fun e w' => e = .returned (.tuple #[.pointer none, .slice none 0 0, .int .i64 1]) ∧ Later w w' := by
  have HFD := Lib.hid (logFind_nil area w)
  have HG := Lib.hid hg
  clear hg
  go_enter Tryd.func12, Tryd.ntmps12
  go_wp2_with fail
  refine HFD.out.mono ?_
  rintro e w1 ⟨⟨v, rfl, hv⟩, l1⟩
  have HT := Lib.hid (tell_some v 1 w1 (HG.out.later l1) hv)
  obtain ⟨b, o, rfl, hc⟩ := hv
  have hif : Tryd.prog.isIface 57 = true := by kernel_rfl
  have heq := run_eql_iface_nil (P := Tryd.prog) (w := w1) 57 hif 86 (.pointer (some ⟨b, o, none⟩))
  have HL := Lib.hid l1
  clear hc l1 HFD hif
  go_wp2_with fail
  refine HT.out.mono ?_
  rintro e w2 ⟨rfl, l2⟩
  have HL2 := Lib.hid (HL.out.trans l2)
  clear l2 HT
  go_wp2_with fail
  go_ret3
  exact ⟨rfl, HL2.out⟩
set_option maxRecDepth 100000 in
theorem logOpen_none (base p gs gn B cs cn : Nat) (A : Option Addr) (cf : Nat) (d : D) (area : Int) (b0 b1 : List Nat) (w : World) (h : DA w base p gs gn B cs cn A cf d) (hB : B ≤ 4000) (h0 : d.now[0]? = some b0) (h1 : FitsD B area → d.now[1]? = some b1) (hz : max (slotG 0 b0) (slotG 1 b1) = 0) (h20 : S20 w) (hg : ErrT w) :
    Calls Tryd.prog 12 #[dptr p, .int .i64 area] w fun e w' => ∃ n : Int, e = .returned (.tuple #[.pointer none, .slice none 0 0, .int .i64 n]) ∧ ((FitsD B area ∧ n = 2) ∨ (¬ FitsD B area ∧ n = 1)) ∧ Later w w' := by
  have HFD := Lib.hid (logFind_any base p gs gn B cs cn A cf d area b0 b1 w h hB h0 h1 h20)
  have HG := Lib.hid hg
  have HZ := Lib.hid hz
  clear h h0 h1 h20 hg hz
  go_enter Tryd.func12, Tryd.ntmps12
  go_wp2_with fail
  refine HFD.out.mono ?_
  rintro e w1 ⟨⟨hn, v, rfl, hv⟩ | ⟨hf, _, v, rfl, hv⟩ | ⟨_, hp, _⟩, l1⟩
  · have HT := Lib.hid (tell_some v 1 w1 (HG.out.later l1) hv)
    obtain ⟨b, o, rfl, hc⟩ := hv
    have hif : Tryd.prog.isIface 57 = true := by kernel_rfl
    have heq := run_eql_iface_nil (P := Tryd.prog) (w := w1) 57 hif 86 (.pointer (some ⟨b, o, none⟩))
    have HL := Lib.hid l1
    have HN := Lib.hid hn
    clear hc l1 HFD hif hn
    go_wp2_with fail
    refine HT.out.mono ?_
    rintro e w2 ⟨rfl, l2⟩
    have HL2 := Lib.hid (HL.out.trans l2)
    clear l2 HT
    go_wp2_with fail
    go_ret3
    exact ⟨1, rfl, .inr ⟨HN.out, rfl⟩, HL2.out⟩
  · have HT := Lib.hid (tell_some v 2 w1 (HG.out.later l1) hv)
    obtain ⟨b, o, rfl, hc⟩ := hv
    have hif : Tryd.prog.isIface 57 = true := by kernel_rfl
    have heq := run_eql_iface_nil (P := Tryd.prog) (w := w1) 57 hif 86 (.pointer (some ⟨b, o, none⟩))
    have HL := Lib.hid l1
    have HN := Lib.hid hf
    clear hc l1 HFD hif hf
    go_wp2_with fail
    refine HT.out.mono ?_
    rintro e w2 ⟨rfl, l2⟩
    have HL2 := Lib.hid (HL.out.trans l2)
    clear l2 HT
    go_wp2_with fail
    go_ret3
    exact ⟨2, rfl, .inl ⟨HN.out, rfl⟩, HL2.out⟩
  · have := HZ.out; omega
end Go.Proofs.YtfplppldojlanaaDoor
