/- Package log: Make. -/
import Derived.Test.YtfplppldojlanaaDoorLogK
namespace Go.Proofs.YtfplppldojlanaaDoor
open Go.RowKit
set_option linter.unusedVariables false

theorem LayP.from_ {base p gs gn B q area gen used f wn : Nat} {now : List (List Nat)} {w0 w wr : World} (h : LayP base p gs gn B q area gen used f wn now w wr) (l : Later w0 w) (hb : base ≤ w0.heap.size) : LayP base p gs gn B q area gen used f wn now w0 wr := by
  obtain ⟨d, cs, cn, A, cf, h1, h2, h3, h4, h5, h6⟩ := h
  exact ⟨d, cs, cn, A, cf, h1, h2, h3, h4, (KL.later l).trans h5, (Below.mono l.below hb).trans h6⟩
/-- What Make gives. -/
def MakeP (base p gs gn B area wn : Nat) (L : List (List Nat)) (w : World) (e : Ending) (w' : World) : Prop :=
  e = .returned (.int .i64 (fitsE area L)) ∧
  ((fitsE area L ≠ 0 ∧ Later w w') ∨ (fitsE area L = 0 ∧ ∃ q now, w.heap.size ≤ q ∧ LgS area 1 L now ∧ LayP base p gs gn B q area 1 (sumN L) 0 (wn + area + sumN L + 1) now w w'))
set_option maxRecDepth 100000 in
theorem logMake_nil (area : Int) (T : Option Addr) (n c : Nat) (w : World) (hg : ErrT w) : Calls Tryd.prog 11 #[.pointer none, .int .i64 area, .slice T n c] w fun e w' => e = .returned (.int .i64 1) ∧ Later w w' := by
  have HC := Lib.hid (logCheck_nil area w)
  have HG := Lib.hid hg
  clear hg
  go_enter Tryd.func11, Tryd.ntmps11
  go_wp2_with fail
  refine HC.out.mono ?_
  rintro e w1 ⟨⟨hf, -⟩ | ⟨-, v, rfl, hv⟩, l1⟩
  · exact hf.elim
  · have HT := Lib.hid (tell_some v 1 w1 (HG.out.later l1) hv)
    obtain ⟨b, o, rfl, hc⟩ := hv
    have hif : Tryd.prog.isIface 57 = true := by kernel_rfl
    have heq := run_eql_iface_nil (P := Tryd.prog) (w := w1) 57 hif 86 (.pointer (some ⟨b, o, none⟩))
    have HL := Lib.hid l1
    clear hc l1 HC hif
    go_wp2_with fail
    refine HT.out.mono ?_
    rintro e w2 ⟨rfl, l2⟩
    have HL2 := Lib.hid (HL.out.trans l2)
    clear l2 HT
    go_wp2_with fail
    go_ret
    exact ⟨rfl, HL2.out⟩
set_option maxRecDepth 100000 in
theorem logMake_no (base p gs gn B cs cn : Nat) (A : Option Addr) (cf : Nat) (d : D) (area : Int) (T : Option Addr) (n c : Nat) (w : World) (h : DA w base p gs gn B cs cn A cf d) (hB : B ≤ 4000) (hf : ¬ FitsD B area) (hg : ErrT w) : Calls Tryd.prog 11 #[dptr p, .int .i64 area, .slice T n c] w fun e w' => e = .returned (.int .i64 1) ∧ Later w w' := by
  have HC := Lib.hid (logCheck_any base p gs gn B cs cn A cf d area w h hB)
  have HG := Lib.hid hg
  have HF := Lib.hid hf
  clear h hg hf
  go_enter Tryd.func11, Tryd.ntmps11
  go_wp2_with fail
  refine HC.out.mono ?_
  rintro e w1 ⟨⟨hf, -⟩ | ⟨-, v, rfl, hv⟩, l1⟩
  · exact absurd hf HF.out
  · have HT := Lib.hid (tell_some v 1 w1 (HG.out.later l1) hv)
    obtain ⟨b, o, rfl, hc⟩ := hv
    have hif : Tryd.prog.isIface 57 = true := by kernel_rfl
    have heq := run_eql_iface_nil (P := Tryd.prog) (w := w1) 57 hif 86 (.pointer (some ⟨b, o, none⟩))
    have HL := Lib.hid l1
    clear hc l1 HC hif
    go_wp2_with fail
    refine HT.out.mono ?_
    rintro e w2 ⟨rfl, l2⟩
    have HL2 := Lib.hid (HL.out.trans l2)
    clear l2 HT
    go_wp2_with fail
    go_ret
    exact ⟨rfl, HL2.out⟩
set_option maxRecDepth 100000 in
set_option maxHeartbeats 1000000 in
theorem logMake_any (base p gs gn B cs cn : Nat) (A : Option Addr) (cf : Nat) (d : D) (area : Nat) (T : Option Addr) (c : Nat) (ss : List SlB) (a : Addr) (w : World) (f wn : Nat) (h : DA w base p gs gn B cs cn A cf d) (hB : B ≤ 4000) (hf : FitsD B area) (hd : DOk B f wn d) (hfl : f ≤ 20000) (hwn : wn ≤ 20000) (hbw : base ≤ w.heap.size)
    (hl : ss.length ≤ 1000) (hstab : ∀ q W, w.heap.size ≤ q → KL gs gn q w W → Below base w W → Has W T (ss.map SlB.v) ∧ ∀ s ∈ ss, Has W s.a (ints .u8 s.l)) (hs : ∀ s ∈ ss, s.l.length ≤ 990 ∧ (∀ x ∈ s.l, x < 256) ∧ (s.a = none → s.c = 0))
    (ho : ∃ b, d.now[0]? = some b ∧ slotG 0 b < 1) (hse : S21B base w a) :
    Calls Tryd.prog 11 #[dptr p, .int .i64 area, .slice T ss.length c] w (MakeP base p gs gn B area wn (ss.map (·.l)) w) := by
  have HC := Lib.hid (logCheck_any base p gs gn B cs cn A cf d area w h hB)
  have HAN := Lib.hid (fun (w1 w2 : World) (q : Nat) (l : Later w w1) (hw2 : w1.alloc (.cells #[dptr p, .int .i64 (area : Int), .int .u32 0, .int .i64 0] 61) = w2) (hq : w1.heap.size = q) =>
    logAnew_top base p gs gn B cs cn A cf d q area 0 0 T ss.length c ss a w2 f wn (h.later (l.trans (hw2 ▸ Later.new _ _))) hB (show LogBk w2 q p area 0 0 from hw2 ▸ Blk.new w1 _ _ q hq.symm) hf (by decide) hd hfl hwn (by have := l.size; omega) rfl hl
      (fun W hk hb => hstab q W (by have := l.size; omega) ((KL.later (l.trans (hw2 ▸ Later.new _ _))).trans hk) ((Below.mono (l.trans (show Later w1 w2 from hw2 ▸ Later.new _ _)).below hbw).trans hb)) hs ho (hse.later (l.trans (hw2 ▸ Later.new _ _))))
  have HF := Lib.hid hf
  clear h hf hd hstab hs ho hse
  go_enter Tryd.func11, Tryd.ntmps11
  go_wp2_with fail
  refine HC.out.mono ?_
  rintro e w1 ⟨⟨-, rfl⟩ | ⟨hf, -⟩, l1⟩
  · obtain ⟨q, hq⟩ : ∃ x, w1.heap.size = x := ⟨_, rfl⟩
    obtain ⟨w2, hw2⟩ : ∃ x, w1.alloc (.cells #[dptr p, .int .i64 (area : Int), .int .u32 0, .int .i64 0] 61) = x := ⟨_, rfl⟩
    have HA := Lib.hid (HAN.out w1 w2 q l1 hw2 hq)
    have HL2 := Lib.hid (l1.trans (show Later w1 w2 from hw2 ▸ Later.new _ _))
    have HQ := Lib.hid (show w.heap.size ≤ q from by have := l1.size; omega)
    have HW := Lib.hid hw2
    have HQE := Lib.hid hq
    clear hw2 hq l1 HAN HC
    go_wp2_with fail
    try rw [HQE.out]
    rw [HW.out]
    refine HA.out.mono ?_
    rintro e w3 ⟨rfl, hr⟩
    have HR := Lib.hid hr
    clear hr HA
    go_wp2_with fail
    go_ret
    refine ⟨rfl, ?_⟩
    rcases HR.out with ⟨h1, h2⟩ | ⟨h1, now, h2, h3⟩
    · exact .inl ⟨h1, HL2.out.trans h2⟩
    · exact .inr ⟨h1, q, now, HQ.out, h2, h3.from_ HL2.out hbw⟩
  · exact absurd HF.out hf
end Go.Proofs.YtfplppldojlanaaDoor
