/- Package log: more, Append. -/
import Derived.Test.YtfplppldojlanaaDoorLogI
namespace Go.Proofs.YtfplppldojlanaaDoor
open Go.RowKit
set_option linter.unusedVariables false

theorem LayP.later {base p gs gn B q area gen used f wn : Nat} {now : List (List Nat)} {w wr w' : World} (h : LayP base p gs gn B q area gen used f wn now w wr) (l : Later wr w') (hbq : base ≤ q) : LayP base p gs gn B q area gen used f wn now w w' := by
  obtain ⟨d, cs, cn, A, cf, h1, h2, h3, h4, h5, h6⟩ := h
  exact ⟨d, cs, cn, A, cf, h1.later l, h2.later l, h3, h4, h5.trans (KL.later l), h6.trans (Below.mono l.below (Nat.le_trans hbq (Nat.le_of_lt h2.lt)))⟩
/-- What more gives. -/
def MoreP (base p gs gn B q area gen used wn : Nat) (recs : List (List Nat)) (r : List Nat) (w0 w : World) (e : Ending) (w' : World) : Prop :=
  (fitsE ((area : Int) - (used : Int)) [r] ≠ 0 ∧ (∃ v, e = .returned v ∧ WrapsE w' v (fitsE ((area : Int) - (used : Int)) [r])) ∧ Later w w') ∨
  (fitsE ((area : Int) - (used : Int)) [r] = 0 ∧ e = .returned .nilIface ∧ ∃ now, LgS area gen (recs ++ [r]) now ∧ LayP base p gs gn B q area gen (used + blkN r.length) 0 (wn + blkN r.length) now w0 w')
set_option maxRecDepth 100000 in
set_option maxHeartbeats 2000000 in
theorem logMore_any (base p gs gn B q area gen used f wn : Nat) (now : List (List Nat)) (recs : List (List Nat)) (A2 : Option Addr) (c : Nat) (r : List Nat) (w0 w : World) (h : LayP base p gs gn B q area gen used f wn now w0 w) (hB : B ≤ 4000) (hf : FitsD B area) (hg : gen < 4294967296) (hfl : f ≤ 80000) (hwn : wn ≤ 80000) (hbq : base ≤ q) (hS : LgS area gen recs now) (hu : used = sumN recs)
    (hr : Has w A2 (ints .u8 r)) (hnil : A2 = none → c = 0) (h990 : r.length ≤ 990) (h256 : ∀ x ∈ r, x < 256) :
    Calls Tryd.prog 27 #[lptr q, .slice A2 r.length c] w (MoreP base p gs gn B q area gen used wn recs r w0 w) := by
  have harea : area ≤ 1000 := by have := hf.2.1; omega
  have hus : used ≤ area := by rw [hu]; exact hS.sum
  obtain ⟨d, cs, cn, A, cf, hda, hqb, hdo, hnw, hkl, hbel⟩ := h
  have HRM := Lib.hid (logRoom_any q p area gen used w hqb (by omega) (by omega))
  have HLAY := Lib.hid (show LayP base p gs gn B q area gen used f wn now w0 w from ⟨d, cs, cn, A, cf, hda, hqb, hdo, hnw, hkl, hbel⟩)
  have HR := Lib.hid hr
  have HSS := Lib.hid hS
  have HU := Lib.hid hu
  have HF := Lib.hid hf
  have H256 := Lib.hid h256
  have hif : Tryd.prog.isIface 57 = true := by kernel_rfl
  have HEQ := Lib.hid (fun (w : World) (v : Value) => run_eql_iface_nil (P := Tryd.prog) (w := w) 57 hif 86 v)
  clear hda hqb hdo hnw hkl hbel hr hS hu hf h256 hif
  go_enter Tryd.func27, Tryd.ntmps27
  go_wp2_with fail
  refine HRM.out.mono ?_
  rintro e w1 ⟨rfl, l1⟩
  obtain ⟨gl, hgl⟩ : ∃ x, w1.heap.size = x := ⟨_, rfl⟩
  obtain ⟨w2, hw2⟩ : ∃ x, w1.alloc (.cells #[.slice A2 r.length c] 24) = x := ⟨_, rfl⟩
  have l2 : Later w1 w2 := hw2 ▸ Later.new _ _
  have hbl : Blk w2 gl [Value.slice A2 r.length c].toArray 24 := hw2 ▸ Blk.new w1 _ _ gl hgl.symm
  obtain ⟨rm, hrm⟩ : ∃ x, (area : Int) - (used : Int) = x := ⟨_, rfl⟩
  have HFT := Lib.hid (logFits_any rm (some ⟨gl, 0, none⟩) 1 1 [⟨A2, c, r⟩] w2 rfl (by simp) (blk_hasL hbl) (fun s hs => by rw [List.mem_singleton] at hs; subst hs; show r.length ≤ _; omega))
  have HL2 := Lib.hid (l1.trans l2)
  have HW2 := Lib.hid hw2
  have HGL := Lib.hid hgl
  have HRMM := Lib.hid hrm
  rw [hrm]
  clear l1 l2 hbl hw2 hgl hrm HRM
  go_wp2_with fail
  try rw [HGL.out]
  rw [HW2.out]
  refine HFT.out.mono ?_
  rintro e w3 ⟨⟨hz, rfl⟩ | ⟨hz, v, rfl, hv⟩, l3⟩
  · have hz0 : fitsE rm [r] = 0 := hz
    have hroom : used + blkN r.length ≤ area := by
      have h1 := HRMM.out
      unfold fitsE at hz0
      split at hz0
      · split at hz0
        · cases hz0
        · have : sumN [r] = blkN r.length := by simp [sumN]
          omega
      · cases hz0
    have HL3 := Lib.hid (HL2.out.trans l3)
    have HLAY3 := Lib.hid (HLAY.out.later HL3.out hbq)
    obtain ⟨d3, cs3, cn3, A3, cf3, hda, hqb, hdo, hnw, hkl, hbel⟩ := HLAY3.out
    have har : areaG area gen d3.now = layR gen 0 recs ++ List.replicate (area - used) (List.replicate 128 0) := by rw [hnw, HU.out]; exact HSS.out.area
    have HLY := Lib.hid (logLay_any base p gs gn B cs3 cn3 A3 cf3 d3 q area gen used A2 r.length c r w3 f wn hda hB hqb HF.out hg hdo (by omega) (by omega) hbq rfl (HR.out.later HL3.out) hnil h990 H256.out (layR gen 0 recs) (List.replicate 128 0) (by rw [layR_len, HU.out]) hroom har)
    have HNX := Lib.hid (fun (W : World) (hp : LayP base p gs gn B q area gen (used + blkN r.length) (f + blkN r.length) (wn + blkN r.length) (putAt d3.now (offG area gen) (layR gen 0 recs ++ (laidR gen used r ++ List.replicate (area - used - blkN r.length) (List.replicate 128 0)))) w3 W) => show ∃ now', LgS area gen (recs ++ [r]) now' ∧ LayP base p gs gn B q area gen (used + blkN r.length) (f + blkN r.length) (wn + blkN r.length) now' w0 W from by
      obtain ⟨d4, cs4, cn4, A4, cf4, h1, h2, h3, h4, h5, h6⟩ := hp
      have hap := HSS.out.append r (by rw [← HU.out]; exact hroom)
      refine ⟨_, hap, d4, cs4, cn4, A4, cf4, h1, h2, h3, ?_, hkl.trans h5, hbel.trans h6⟩
      rw [h4, hnw, layR_snoc, sumN_snoc, Nat.zero_add, ← HU.out, List.append_assoc, Nat.sub_sub])
    have HZ := Lib.hid (show fitsE ((area : Int) - (used : Int)) [r] = 0 from by rw [HRMM.out]; exact hz0)
    clear hz hz0 l3 hda hqb hdo hnw hkl hbel har HFT HLAY HLAY3
    go_wp2_with fail
    refine HLY.out.mono ?_
    rintro e w4 ⟨rfl, hp⟩
    obtain ⟨now', hnow', hlay4⟩ := HNX.out w4 hp
    have hb10 : blkN r.length ≤ 10 := by unfold blkN; omega
    have HFL := Lib.hid (layP_flush hlay4 hB (by omega) hbq)
    have HNW := Lib.hid hnow'
    obtain ⟨dx, csx, cnx, Ax, cfx, hdx, hqx, _⟩ := hlay4
    have k0 := hqx.cell 0 _ rfl
    clear hp hnow' hdx hqx HLY HNX
    go_wp2_with fail
    refine HFL.out.mono ?_
    rintro e w5 ⟨rfl, hlay5⟩
    have HLZ := Lib.hid hlay5
    clear hlay5 HFL k0
    go_wp2_with fail
    go_ret
    exact .inr ⟨HZ.out, rfl, now', HNW.out, HLZ.out⟩
  · obtain ⟨b, o, rfl, hc⟩ := hv
    have heq := HEQ.out w3 (.pointer (some ⟨b, o, none⟩))
    have HV := Lib.hid (show WrapsE w3 (.iface 86 (.pointer (some ⟨b, o, none⟩))) (fitsE ((area : Int) - (used : Int)) [r]) from by rw [HRMM.out]; exact ⟨b, o, rfl, hc⟩)
    have HZ := Lib.hid (show fitsE ((area : Int) - (used : Int)) [r] ≠ 0 from by rw [HRMM.out]; exact hz)
    have HL3 := Lib.hid (HL2.out.trans l3)
    clear hc hz l3 HFT
    go_wp2_with fail
    go_ret
    exact .inl ⟨HZ.out, ⟨_, rfl, HV.out⟩, HL3.out⟩
end Go.Proofs.YtfplppldojlanaaDoor
