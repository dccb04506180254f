/- The walk of law 19's begun. -/
import Derived.Test.YtnmldploafpbdaaDoorSpaceE
namespace Go.Proofs.YtnmldploafpbdaaDoor
open Go.RowKit
set_option linter.unusedVariables false

theorem Later.only {w w1 w2 : World} {g : Nat} (h : Later w w1) (k : w1.grownBy w2 (some g)) (hg : w.heap.size ≤ g) : Later w w2 :=
  Below.grown h k h.size fun j hj => by injection hj with hj; omega

set_option maxRecDepth 100000 in
set_option maxHeartbeats 4000000 in
theorem begun19_any (aB aO : Addr) (w : World) (hs : S19 w aB aO) :
    Calls Tryd.prog 10 #[] w fun e w' => e = .returned (.bool true) ∧ Later w w' := by
  have HN := Lib.hid (spaceNew_any 10 4 w)
  have HS := Lib.hid hs
  clear hs
  go_enter Tryd.func10, Tryd.ntmps10
  go_wp2_with fail
  refine HN.out.mono ?_
  rintro e w1 ⟨p, g, c, rfl, sp1, l1, hp, hg⟩
  have HG := Lib.hid hg
  have sp1 : Spc w1 p 10 [false, false, false, false] g c := sp1
  have HT := Lib.hid (spaceTake_any p 10 _ g c 2 aB aO w1 sp1 (HS.out.later l1) (by decide) (by decide) (by decide))
  rw [show fstS [false, false, false, false] 2 = some 0 from by decide] at HT
  have HL1 := Lib.hid l1
  clear sp1 l1 hg hp HN
  go_wp2_with fail
  refine HT.out.mono ?_
  intro e w2 h
  obtain ⟨rfl, sp2, g2⟩ := h.yes
  have sp2 : Spc w2 p 10 [true, true, false, false] g c := sp2
  have l2 := HL1.out.only g2 HG.out
  have BA := Blk.new w2 #[.int .i64 10, .int .i64 2] 30 w2.heap.size rfl
  have sp3 := sp2.later (Later.new w2 (.cells #[.int .i64 10, .int .i64 2] 30))
  have l3 := l2.alloc (.cells #[.int .i64 10, .int .i64 2] 30)
  have hga := sp2.glt
  clear HT g2 h HL1 sp2 l2
  obtain ⟨w3, hw3⟩ : ∃ x, w2.alloc (.cells #[.int .i64 10, .int .i64 2] 30) = x := ⟨_, rfl⟩
  rw [hw3] at BA sp3 l3
  obtain ⟨a, ha⟩ : ∃ x, w2.heap.size = x := ⟨_, rfl⟩
  rw [ha] at BA hga
  have HA := Lib.hid hga
  have HT := Lib.hid (spaceTake_any p 10 _ g c 2 aB aO w3 sp3 (HS.out.later l3) (by decide) (by decide) (by decide))
  rw [show fstS [true, true, false, false] 2 = some 2 from by decide] at HT
  have HL3 := Lib.hid l3
  have HBA := Lib.hid BA
  clear sp3 l3 BA hga sp1
  go_wp2_with fail
  refine HT.out.mono ?_
  intro e w4 h
  obtain ⟨rfl, sp4, g4⟩ := h.yes
  have sp4 : Spc w4 p 10 [true, true, true, true] g c := sp4
  have l4 := HL3.out.only g4 HG.out
  have BA4 := HBA.out.grown g4 (by intro h; injection h with h; exact absurd HA.out (by omega))
  have BB := Blk.new w4 #[.int .i64 12, .int .i64 2] 30 w4.heap.size rfl
  have sp5 := sp4.later (Later.new w4 (.cells #[.int .i64 12, .int .i64 2] 30))
  have BA5 := BA4.later (Later.new w4 (.cells #[.int .i64 12, .int .i64 2] 30))
  have l5 := l4.alloc (.cells #[.int .i64 12, .int .i64 2] 30)
  have hgb := sp4.glt
  clear HT g4 h HL3 sp4 l4 HBA BA4
  obtain ⟨w5, hw5⟩ : ∃ x, w4.alloc (.cells #[.int .i64 12, .int .i64 2] 30) = x := ⟨_, rfl⟩
  rw [hw5] at BB sp5 l5 BA5
  obtain ⟨b, hb⟩ : ∃ x, w4.heap.size = x := ⟨_, rfl⟩
  rw [hb] at BB hgb
  have HB := Lib.hid hgb
  have HT := Lib.hid (spaceTake_any p 10 _ g c 1 aB aO w5 sp5 (HS.out.later l5) (by decide) (by decide) (by decide))
  rw [show fstS [true, true, true, true] 1 = none from by decide] at HT
  have HL5 := Lib.hid l5
  have HBA := Lib.hid BA5
  have HBB := Lib.hid BB
  have HSP := Lib.hid sp5
  clear sp5 l5 BA5 BB hgb
  go_wp2_with fail
  refine HT.out.mono ?_
  intro e w6 h
  obtain ⟨rfl, g6⟩ := h.no
  have g7 := g6.alloc (.cells #[.int .i64 0, .int .i64 0] 30)
  have l7 := HL5.out.trans g7
  have sp7 := HSP.out.later g7
  have A7 := HBA.out.later g7
  have B7 := HBB.out.later g7
  have a0 := A7.cell 0 _ rfl
  have a1 := A7.cell 1 _ rfl
  have HF := Lib.hid (spaceFree_any p 10 _ g c 10 2 aB aO _ sp7 (HS.out.later l7) (by decide) (by decide) (by decide) (by decide))
  have HL7 := Lib.hid l7
  have HA7 := Lib.hid A7
  have HB7 := Lib.hid B7
  clear HT h g6 g7 l7 sp7 A7 B7 HL5 HBA HBB HSP
  go_wp2_with fail
  refine HF.out.mono ?_
  rintro e w8 ⟨rfl, sp8, g8⟩
  rw [show (turnS 10 [true, true, true, true] 10 2 false).isSome = true from by decide]
  have sp8 : Spc w8 p 10 [false, false, true, true] g c := sp8
  have l8 := HL7.out.only g8 HG.out
  have A8 := HA7.out.grown g8 (by intro h; injection h with h; exact absurd HA.out (by omega))
  have B8 := HB7.out.grown g8 (by intro h; injection h with h; exact absurd HB.out (by omega))
  have a0 := A8.cell 0 _ rfl
  have a1 := A8.cell 1 _ rfl
  have b0 := B8.cell 0 _ rfl
  have HU := Lib.hid (spaceUsed_any p 10 _ g c w8 sp8 (by decide))
  have HM := Lib.hid (spaceMark_any p 10 _ g c 10 2 aB aO w8 sp8 (HS.out.later l8) (by decide) (by decide) (by decide) (by decide))
  have HL8 := Lib.hid l8
  have HA8 := Lib.hid A8
  have HB8 := Lib.hid B8
  clear HF g8 sp8 l8 A8 B8 HL7 HA7 HB7
  go_wp2_with fail
  refine HU.out.mono ?_
  rintro e w' ⟨rfl, rfl⟩
  rw [show usedL [false, false, true, true] = 2 from rfl]
  clear HU
  go_wp2_with fail
  refine HM.out.mono ?_
  rintro e w9 ⟨rfl, sp9, g9⟩
  rw [show (turnS 10 [false, false, true, true] 10 2 true).isSome = true from by decide]
  have sp9 : Spc w9 p 10 [true, true, true, true] g c := sp9
  have l9 := HL8.out.only g9 HG.out
  have B9 := HB8.out.grown g9 (by intro h; injection h with h; exact absurd HB.out (by omega))
  have b0 := B9.cell 0 _ rfl
  have b1 := B9.cell 1 _ rfl
  have HM2 := Lib.hid (spaceMark_any p 10 _ g c 12 2 aB aO w9 sp9 (HS.out.later l9) (by decide) (by decide) (by decide) (by decide))
  have HL9 := Lib.hid l9
  clear HM g9 sp9 l9 B9 HL8 HA8 HB8 a0 a1
  go_wp2_with fail
  refine HM2.out.mono ?_
  rintro e w10 ⟨rfl, sp10, g10⟩
  rw [show (turnS 10 [true, true, true, true] 12 2 true).isSome = false from by decide]
  have sp10 : Spc w10 p 10 [true, true, true, true] g c := sp10
  have l10 := HL9.out.only g10 HG.out
  have HC := Lib.hid (spaceCopy_any p 10 _ g c w10 sp10 (by decide))
  have HL10 := Lib.hid l10
  clear HM2 g10 sp10 l10 HL9 b0 b1
  go_wp2_with fail
  refine HC.out.mono ?_
  rintro e w11 ⟨p', g', c', rfl, _, l11, _⟩
  have HL11 := Lib.hid (HL10.out.trans l11)
  clear HC l11 HL10
  go_wp2_with fail
  go_ret
  exact ⟨rfl, HL11.out⟩
end Go.Proofs.YtnmldploafpbdaaDoor
