/- LogNone. (tools/gen_lognone.py) -/
import Derived.Test.YtfplppldojlanaaDoorLogR
namespace Go.Proofs.YtfplppldojlanaaDoor
open Go.RowKit
set_option linter.unusedVariables false

theorem has_none (w : World) : Has w none [] := .inl rfl
set_option maxRecDepth 100000 in
set_option maxHeartbeats 2000000 in
theorem logNone_walk (area : Int) (k : Nat) (a : Addr) (w : World) (hs : S21 w a) (hk : k < 256) :
    Calls Tryd.prog 5 #[.int .i64 area, .int .u8 (k : Int)] w fun e w' => e = .returned (.bool true) ∧ Later w w' := by
  have HB := Lib.hid (begun21_any a w hs)
  have HS := Lib.hid hs
  obtain ⟨B, hB⟩ : ∃ x, x = 1 + k := ⟨_, rfl⟩
  have hB1 : 1 ≤ B ∧ B ≤ 4000 := by omega
  have e1 : IntKind.i64.wrap (k : Int) = (k : Int) := IntWalk.i64_in _ ⟨by omega, by omega⟩
  have e2 : IntKind.i64.wrap (1 + (k : Int)) = (B : Int) := by rw [IntWalk.i64_in _ ⟨by omega, by omega⟩]; omega
  have HN := Lib.hid (fun W => devNew_any B W hB1)
  have HB1 := Lib.hid hB1
  have hB0 := hB1.1
  clear hs hB1
  by_cases hg : 1000 < area ∧ area < 1048576
  · have d1 : decide (1000 < area) = true := by simp; omega
    have d2 : decide (area < 1048576) = true := by simp; omega
    clear hg e1 e2 HN hB
    go_enter Tryd.func5, Tryd.ntmps5
    go_wp2_with fail
    refine HB.out.mono ?_
    rintro e w1 ⟨rfl, l1⟩
    have HL := Lib.hid l1
    clear l1
    go_wp2_with fail
    go_ret
    exact ⟨rfl, HL.out⟩
  · by_cases h1 : area < 1
    · have d1 : decide (1000 < area) = false := by simp; omega
      have d3 : decide (1 ≤ area) = false := by simp; omega
      have HF := Lib.hid (show ¬ FitsD B area from fun h => by have := h.1; omega)
      clear h1
      clear hg hB
      go_enter Tryd.func5, Tryd.ntmps5
      go_wp2_with fail
      refine HB.out.mono ?_
      rintro e w1 ⟨rfl, l1⟩
      have HL1 := Lib.hid l1
      clear l1 HB
      go_wp2_with fail
      refine (HN.out w1).mono ?_
      rintro e w2 ⟨p, gs, gn, cs, cn, rfl, hda, l2⟩
      have HDA := Lib.hid hda
      have HL2 := Lib.hid (HL1.out.trans l2)
      have HO := Lib.hid (logOpen_none w1.heap.size p gs gn B cs cn none 0 (newD B) area z128 z128 w2 hda HB1.out.2 (by show (List.replicate B z128)[0]? = _; rw [List.getElem?_replicate, if_pos (by omega)]) (fun h => by
        show (List.replicate B z128)[1]? = _
        have := h.2.2
        have := h.1
        rw [List.getElem?_replicate, if_pos (by omega)]) (by rw [slotG_zero 0 z128 rfl, slotG_zero 1 z128 rfl]; rfl) (HS.out.later HL2.out).torn (HS.out.later HL2.out).err)
      have HLA := Lib.hid l2
      clear hda l2 HN
      go_wp2_with fail
      refine HO.out.mono ?_
      rintro e w3 ⟨n, rfl, hn, l3⟩
      obtain rfl : n = 1 := by
        rcases hn with ⟨_, h⟩ | ⟨h, h2⟩
        · exact absurd ‹_› HF.out
        · exact h2
      have HL3 := Lib.hid (HL2.out.trans l3)
      have HDA3 := Lib.hid (HDA.out.later l3)
      have HLB := Lib.hid (HLA.out.trans l3)
      clear hn l3 HO HLA HDA HL2
      have HO := Lib.hid (logOpen_nil 3 w3 (HS.out.later HL3.out).err)
      go_wp2_with fail
      refine HO.out.mono ?_
      rintro e w4 ⟨rfl, l4⟩
      have HL4 := Lib.hid (HL3.out.trans l4)
      have HDA4 := Lib.hid (HDA3.out.later l4)
      have HLC := Lib.hid (HLB.out.trans l4)
      clear l4 HO HLB HDA3 HL3
      have HO := Lib.hid (logMake_nil 3 none 0 0 w4 (HS.out.later HL4.out).err)
      go_wp2_with fail
      refine HO.out.mono ?_
      rintro e w5 ⟨rfl, l5⟩
      have HL5 := Lib.hid (HL4.out.trans l5)
      have HDA5 := Lib.hid (HDA4.out.later l5)
      have HLD := Lib.hid (HLC.out.trans l5)
      clear l5 HO HLC HDA4 HL4

      have HO := Lib.hid (logMake_no w1.heap.size p gs gn B cs cn none 0 (newD B) area none 0 0 w5 HDA5.out HB1.out.2 HF.out (HS.out.later HL5.out).err)
      go_wp2_with fail
      refine HO.out.mono ?_
      rintro e w6 ⟨rfl, l6⟩
      have HEND := Lib.hid (HL5.out.trans l6)
      clear l6 HO HLD

      have HA := Lib.hid (logAppend_nil none 0 0 w6)
      have HW := Lib.hid (logAnew_nil none 0 0 w6)
      have HR := Lib.hid (logRoom_nil w6)
      have HG := Lib.hid (logGen_nil w6)
      go_wp2_with fail
      refine HA.out.mono ?_
      rintro e w7 ⟨rfl, rfl⟩
      go_wp2_with fail
      refine HW.out.mono ?_
      rintro e w7 ⟨rfl, rfl⟩
      go_wp2_with fail
      refine HR.out.mono ?_
      rintro e w7 ⟨rfl, rfl⟩
      go_wp2_with fail
      refine HG.out.mono ?_
      rintro e w7 ⟨rfl, rfl⟩
      go_wp2_with fail
      go_ret
      exact ⟨rfl, HEND.out⟩
    · by_cases h2 : 1000 < area
      · have d1 : decide (1000 < area) = true := by simp; omega
        have d2 : decide (area < 1048576) = false := by simp; omega
        have d3 : decide (1 ≤ area) = true := by simp; omega
        have d4 : decide (area ≤ 1000) = false := by simp; omega
        have HF := Lib.hid (show ¬ FitsD B area from fun h => by have := h.2.1; omega)
        clear h1 h2
        clear hg hB
        go_enter Tryd.func5, Tryd.ntmps5
        go_wp2_with fail
        refine HB.out.mono ?_
        rintro e w1 ⟨rfl, l1⟩
        have HL1 := Lib.hid l1
        clear l1 HB
        go_wp2_with fail
        refine (HN.out w1).mono ?_
        rintro e w2 ⟨p, gs, gn, cs, cn, rfl, hda, l2⟩
        have HDA := Lib.hid hda
        have HL2 := Lib.hid (HL1.out.trans l2)
        have HO := Lib.hid (logOpen_none w1.heap.size p gs gn B cs cn none 0 (newD B) area z128 z128 w2 hda HB1.out.2 (by show (List.replicate B z128)[0]? = _; rw [List.getElem?_replicate, if_pos (by omega)]) (fun h => by
          show (List.replicate B z128)[1]? = _
          have := h.2.2
          have := h.1
          rw [List.getElem?_replicate, if_pos (by omega)]) (by rw [slotG_zero 0 z128 rfl, slotG_zero 1 z128 rfl]; rfl) (HS.out.later HL2.out).torn (HS.out.later HL2.out).err)
        have HLA := Lib.hid l2
        clear hda l2 HN
        go_wp2_with fail
        refine HO.out.mono ?_
        rintro e w3 ⟨n, rfl, hn, l3⟩
        obtain rfl : n = 1 := by
          rcases hn with ⟨_, h⟩ | ⟨h, h2⟩
          · exact absurd ‹_› HF.out
          · exact h2
        have HL3 := Lib.hid (HL2.out.trans l3)
        have HDA3 := Lib.hid (HDA.out.later l3)
        have HLB := Lib.hid (HLA.out.trans l3)
        clear hn l3 HO HLA HDA HL2
        have HO := Lib.hid (logOpen_nil 3 w3 (HS.out.later HL3.out).err)
        go_wp2_with fail
        refine HO.out.mono ?_
        rintro e w4 ⟨rfl, l4⟩
        have HL4 := Lib.hid (HL3.out.trans l4)
        have HDA4 := Lib.hid (HDA3.out.later l4)
        have HLC := Lib.hid (HLB.out.trans l4)
        clear l4 HO HLB HDA3 HL3
        have HO := Lib.hid (logMake_nil 3 none 0 0 w4 (HS.out.later HL4.out).err)
        go_wp2_with fail
        refine HO.out.mono ?_
        rintro e w5 ⟨rfl, l5⟩
        have HL5 := Lib.hid (HL4.out.trans l5)
        have HDA5 := Lib.hid (HDA4.out.later l5)
        have HLD := Lib.hid (HLC.out.trans l5)
        clear l5 HO HLC HDA4 HL4

        have HO := Lib.hid (logMake_no w1.heap.size p gs gn B cs cn none 0 (newD B) area none 0 0 w5 HDA5.out HB1.out.2 HF.out (HS.out.later HL5.out).err)
        go_wp2_with fail
        refine HO.out.mono ?_
        rintro e w6 ⟨rfl, l6⟩
        have HEND := Lib.hid (HL5.out.trans l6)
        clear l6 HO HLD

        have HA := Lib.hid (logAppend_nil none 0 0 w6)
        have HW := Lib.hid (logAnew_nil none 0 0 w6)
        have HR := Lib.hid (logRoom_nil w6)
        have HG := Lib.hid (logGen_nil w6)
        go_wp2_with fail
        refine HA.out.mono ?_
        rintro e w7 ⟨rfl, rfl⟩
        go_wp2_with fail
        refine HW.out.mono ?_
        rintro e w7 ⟨rfl, rfl⟩
        go_wp2_with fail
        refine HR.out.mono ?_
        rintro e w7 ⟨rfl, rfl⟩
        go_wp2_with fail
        refine HG.out.mono ?_
        rintro e w7 ⟨rfl, rfl⟩
        go_wp2_with fail
        go_ret
        exact ⟨rfl, HEND.out⟩
      · obtain ⟨area, rfl⟩ : ∃ x : Nat, area = (x : Int) := ⟨area.toNat, by omega⟩
        have d1 : decide (1000 < (area : Int)) = false := by simp; omega
        have d3 : decide (1 ≤ (area : Int)) = true := by simp; omega
        have d4 : decide ((area : Int) ≤ 1000) = true := by simp; omega
        have e3 : IntKind.i64.wrap (2 * (area : Int)) = 2 * (area : Int) := IntWalk.i64_in _ ⟨by omega, by omega⟩
        have e4 : IntKind.i64.wrap (2 + 2 * (area : Int)) = 2 + 2 * (area : Int) := IntWalk.i64_in _ ⟨by omega, by omega⟩
        by_cases h3 : 2 + 2 * (area : Int) ≤ (B : Int)
        · have d5 : decide (2 + 2 * (area : Int) ≤ (B : Int)) = true := by simpa using h3
          have HF := Lib.hid (show FitsD B (area : Int) from ⟨by omega, by omega, h3⟩)
          clear h1 h2 h3
          clear hg hB
          go_enter Tryd.func5, Tryd.ntmps5
          go_wp2_with fail
          refine HB.out.mono ?_
          rintro e w1 ⟨rfl, l1⟩
          have HL1 := Lib.hid l1
          clear l1 HB
          go_wp2_with fail
          refine (HN.out w1).mono ?_
          rintro e w2 ⟨p, gs, gn, cs, cn, rfl, hda, l2⟩
          have HDA := Lib.hid hda
          have HL2 := Lib.hid (HL1.out.trans l2)
          have HO := Lib.hid (logOpen_none w1.heap.size p gs gn B cs cn none 0 (newD B) (area : Int) z128 z128 w2 hda HB1.out.2 (by show (List.replicate B z128)[0]? = _; rw [List.getElem?_replicate, if_pos (by omega)]) (fun h => by
            show (List.replicate B z128)[1]? = _
            have := h.2.2
            have := h.1
            rw [List.getElem?_replicate, if_pos (by omega)]) (by rw [slotG_zero 0 z128 rfl, slotG_zero 1 z128 rfl]; rfl) (HS.out.later HL2.out).torn (HS.out.later HL2.out).err)
          have HLA := Lib.hid l2
          clear hda l2 HN
          go_wp2_with fail
          refine HO.out.mono ?_
          rintro e w3 ⟨n, rfl, hn, l3⟩
          obtain rfl : n = 2 := by
            rcases hn with ⟨_, h⟩ | ⟨h, h2⟩
            · exact h
            · exact absurd HF.out h
          have HL3 := Lib.hid (HL2.out.trans l3)
          have HDA3 := Lib.hid (HDA.out.later l3)
          have HLB := Lib.hid (HLA.out.trans l3)
          clear hn l3 HO HLA HDA HL2
          have HO := Lib.hid (logOpen_nil 3 w3 (HS.out.later HL3.out).err)
          go_wp2_with fail
          refine HO.out.mono ?_
          rintro e w4 ⟨rfl, l4⟩
          have HL4 := Lib.hid (HL3.out.trans l4)
          have HDA4 := Lib.hid (HDA3.out.later l4)
          have HLC := Lib.hid (HLB.out.trans l4)
          clear l4 HO HLB HDA3 HL3
          have HO := Lib.hid (logMake_nil 3 none 0 0 w4 (HS.out.later HL4.out).err)
          go_wp2_with fail
          refine HO.out.mono ?_
          rintro e w5 ⟨rfl, l5⟩
          have HL5 := Lib.hid (HL4.out.trans l5)
          have HDA5 := Lib.hid (HDA4.out.later l5)
          have HLD := Lib.hid (HLC.out.trans l5)
          clear l5 HO HLC HDA4 HL4

          have HSB := Lib.hid (((S21B.of (HS.out.later HL1.out))).later HLD.out)
          have HO := Lib.hid (logMake_any w1.heap.size p gs gn B cs cn none 0 (newD B) area none 0 [] a w5 0 0 HDA5.out HB1.out.2 HF.out (DOk.new B) (by decide) (by decide) HLD.out.size (Nat.zero_le _) (fun q W _ _ _ => ⟨has_none W, fun s hs => by cases hs⟩) (fun s hs => by cases hs) (new_ho B HB1.out.1) HSB.out)
          go_wp2_with fail
          refine HO.out.mono ?_
          rintro e w6 ⟨rfl, hr⟩
          have hfe : fitsE ((area : Nat) : Int) (List.map (·.l) ([] : List SlB)) = 0 := by
            unfold fitsE sumN
            simp
          rcases hr with ⟨h1, _⟩ | ⟨_, q, now, hq, hlg, hlay⟩
          · exact absurd hfe h1
          rw [hfe]
          have HEND := Lib.hid (show Later w w6 from HL1.out.trans (show Later w1 w6 from (show Below w1.heap.size w1 w5 from HLD.out.below).trans hlay.below))
          clear hfe hq hlg hlay HO HLD

          have HA := Lib.hid (logAppend_nil none 0 0 w6)
          have HW := Lib.hid (logAnew_nil none 0 0 w6)
          have HR := Lib.hid (logRoom_nil w6)
          have HG := Lib.hid (logGen_nil w6)
          go_wp2_with fail
          refine HA.out.mono ?_
          rintro e w7 ⟨rfl, rfl⟩
          go_wp2_with fail
          refine HW.out.mono ?_
          rintro e w7 ⟨rfl, rfl⟩
          go_wp2_with fail
          refine HR.out.mono ?_
          rintro e w7 ⟨rfl, rfl⟩
          go_wp2_with fail
          refine HG.out.mono ?_
          rintro e w7 ⟨rfl, rfl⟩
          go_wp2_with fail
          go_ret
          exact ⟨rfl, HEND.out⟩
        · have d5 : decide (2 + 2 * (area : Int) ≤ (B : Int)) = false := by simpa using h3
          have HF := Lib.hid (show ¬ FitsD B (area : Int) from fun h => h3 h.2.2)
          clear h1 h2 h3
          clear hg hB
          go_enter Tryd.func5, Tryd.ntmps5
          go_wp2_with fail
          refine HB.out.mono ?_
          rintro e w1 ⟨rfl, l1⟩
          have HL1 := Lib.hid l1
          clear l1 HB
          go_wp2_with fail
          refine (HN.out w1).mono ?_
          rintro e w2 ⟨p, gs, gn, cs, cn, rfl, hda, l2⟩
          have HDA := Lib.hid hda
          have HL2 := Lib.hid (HL1.out.trans l2)
          have HO := Lib.hid (logOpen_none w1.heap.size p gs gn B cs cn none 0 (newD B) area z128 z128 w2 hda HB1.out.2 (by show (List.replicate B z128)[0]? = _; rw [List.getElem?_replicate, if_pos (by omega)]) (fun h => by
            show (List.replicate B z128)[1]? = _
            have := h.2.2
            have := h.1
            rw [List.getElem?_replicate, if_pos (by omega)]) (by rw [slotG_zero 0 z128 rfl, slotG_zero 1 z128 rfl]; rfl) (HS.out.later HL2.out).torn (HS.out.later HL2.out).err)
          have HLA := Lib.hid l2
          clear hda l2 HN
          go_wp2_with fail
          refine HO.out.mono ?_
          rintro e w3 ⟨n, rfl, hn, l3⟩
          obtain rfl : n = 1 := by
            rcases hn with ⟨_, h⟩ | ⟨h, h2⟩
            · exact absurd ‹_› HF.out
            · exact h2
          have HL3 := Lib.hid (HL2.out.trans l3)
          have HDA3 := Lib.hid (HDA.out.later l3)
          have HLB := Lib.hid (HLA.out.trans l3)
          clear hn l3 HO HLA HDA HL2
          have HO := Lib.hid (logOpen_nil 3 w3 (HS.out.later HL3.out).err)
          go_wp2_with fail
          refine HO.out.mono ?_
          rintro e w4 ⟨rfl, l4⟩
          have HL4 := Lib.hid (HL3.out.trans l4)
          have HDA4 := Lib.hid (HDA3.out.later l4)
          have HLC := Lib.hid (HLB.out.trans l4)
          clear l4 HO HLB HDA3 HL3
          have HO := Lib.hid (logMake_nil 3 none 0 0 w4 (HS.out.later HL4.out).err)
          go_wp2_with fail
          refine HO.out.mono ?_
          rintro e w5 ⟨rfl, l5⟩
          have HL5 := Lib.hid (HL4.out.trans l5)
          have HDA5 := Lib.hid (HDA4.out.later l5)
          have HLD := Lib.hid (HLC.out.trans l5)
          clear l5 HO HLC HDA4 HL4

          have HO := Lib.hid (logMake_no w1.heap.size p gs gn B cs cn none 0 (newD B) area none 0 0 w5 HDA5.out HB1.out.2 HF.out (HS.out.later HL5.out).err)
          go_wp2_with fail
          refine HO.out.mono ?_
          rintro e w6 ⟨rfl, l6⟩
          have HEND := Lib.hid (HL5.out.trans l6)
          clear l6 HO HLD

          have HA := Lib.hid (logAppend_nil none 0 0 w6)
          have HW := Lib.hid (logAnew_nil none 0 0 w6)
          have HR := Lib.hid (logRoom_nil w6)
          have HG := Lib.hid (logGen_nil w6)
          go_wp2_with fail
          refine HA.out.mono ?_
          rintro e w7 ⟨rfl, rfl⟩
          go_wp2_with fail
          refine HW.out.mono ?_
          rintro e w7 ⟨rfl, rfl⟩
          go_wp2_with fail
          refine HR.out.mono ?_
          rintro e w7 ⟨rfl, rfl⟩
          go_wp2_with fail
          refine HG.out.mono ?_
          rintro e w7 ⟨rfl, rfl⟩
          go_wp2_with fail
          go_ret
          exact ⟨rfl, HEND.out⟩
end Go.Proofs.YtfplppldojlanaaDoor
