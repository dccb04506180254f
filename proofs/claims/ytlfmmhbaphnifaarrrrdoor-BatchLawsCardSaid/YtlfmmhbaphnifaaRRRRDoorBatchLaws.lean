/- The walk of BatchLaws. (tools/gen_blaws.py) -/
import Derived.Test.YtlfmmhbaphnifaaRRRRDoorBeg12
import Derived.Test.YtlfmmhbaphnifaaRRRRDoorSel
namespace Go.Proofs.YtlfmmhbaphnifaaRRRRDoor
open Go.RowKit
set_option linter.unusedVariables false

set_option maxRecDepth 100000 in
theorem batchLaws_long (A : Option Addr) (n c : Nat) (B : Option Addr) (m d : Nat) (w : World) (hs : S12 w) (h : 30 < n ∨ 30 < m) :
    Calls Tryd.prog 3 #[.slice A n c, .slice B m d] w fun e w' => e = .returned (.bool true) ∧ Later w w' := by
  have HB := Lib.hid (begun12_any w hs)
  clear hs
  go_enter Tryd.func3, Tryd.ntmps3
  go_wp2_with fail
  refine HB.out.mono ?_
  rintro e w1 ⟨rfl, l1⟩
  have HL1 := Lib.hid l1
  clear l1 HB
  by_cases h1 : 30 < n
  · have hn30 : (30 : Int) < (n : Int) := by omega
    clear h h1
    go_wp2_with fail
    go_ret
    exact ⟨rfl, HL1.out⟩
  · have hn30 : ¬ (30 : Int) < (n : Int) := by omega
    have hm30 : (30 : Int) < (m : Int) := by omega
    clear h h1
    go_wp2_with fail
    go_ret
    exact ⟨rfl, HL1.out⟩
set_option maxRecDepth 100000 in
set_option maxHeartbeats 8000000 in
theorem batchLaws_walk (A : Option Addr) (n c : Nat) (B : Option Addr) (m d : Nat) (la lb : List Bool) (w : World) (hs : S12 w) (hn : n = la.length) (hm : m = lb.length) (hnl : n ≤ 30) (hml : m ≤ 30) (ha : Has w A (bools la)) (hb : Has w B (bools lb)) :
    Calls Tryd.prog 3 #[.slice A n c, .slice B m d] w fun e w' => e = .returned (.bool true) ∧ Later w w' := by
  have HB := Lib.hid (begun12_any w hs)
  have HA := Lib.hid ha
  have HBB := Lib.hid hb
  have HN := Lib.hid hn
  have HM := Lib.hid hm
  have hn30 : ¬ (30 : Int) < (n : Int) := by omega
  have hm30 : ¬ (30 : Int) < (m : Int) := by omega
  clear hs ha hb hn hm
  go_enter Tryd.func3, Tryd.ntmps3
  go_wp2_with fail
  refine HB.out.mono ?_
  rintro e w1 ⟨rfl, l1⟩
  have HLW := Lib.hid l1
  have HA := Lib.hid (HA.out.later l1)
  have HBB := Lib.hid (HBB.out.later l1)
  clear l1 HB
  go_wp2_with fail
  obtain ⟨N, hN⟩ : ∃ N : Nat, max n m = N := ⟨_, rfl⟩
  have hNi : max (n : Int) (m : Int) = (N : Int) := by rw [← hN]; omega
  rw [hNi]
  have hnN : n ≤ N ∧ m ≤ N ∧ N ≤ 30 := by omega
  clear hN hNi
  refine (sel_any A n c la w1 HN.out (by omega) HA.out).mono ?_
  rintro e x1 ⟨AX, cX, rfl, hX, _, _, zX, lN⟩
  obtain ⟨X, hEX⟩ : ∃ x, selL la n = x := ⟨_, rfl⟩
  rw [hEX] at hX ⊢
  have HBX := Lib.hid (show X.length ≤ 200 by rw [← hEX]; exact Nat.le_trans (selL_len _ _) (by omega))
  obtain ⟨nX, hnX⟩ : ∃ x, X.length = x := ⟨_, rfl⟩
  have HNX := Lib.hid hnX
  rw [hnX]
  have HEX := Lib.hid hEX
  have HHX := Lib.hid hX
  have HZX := Lib.hid zX
  have HLW := Lib.hid (HLW.out.trans lN)
  have HBB := Lib.hid (HBB.out.later lN)
  clear lN hX hnX hEX zX
  go_wp2_with fail
  refine (sel_any B m d lb x1 HM.out (by omega) HBB.out).mono ?_
  rintro e x2 ⟨AY, cY, rfl, hY, _, _, zY, lN⟩
  obtain ⟨Y, hEY⟩ : ∃ x, selL lb m = x := ⟨_, rfl⟩
  rw [hEY] at hY ⊢
  have HBY := Lib.hid (show Y.length ≤ 200 by rw [← hEY]; exact Nat.le_trans (selL_len _ _) (by omega))
  obtain ⟨nY, hnY⟩ : ∃ x, Y.length = x := ⟨_, rfl⟩
  have HNY := Lib.hid hnY
  rw [hnY]
  have HEY := Lib.hid hEY
  have HHY := Lib.hid hY
  have HZY := Lib.hid zY
  have HHX := Lib.hid (HHX.out.later lN)
  have HLW := Lib.hid (HLW.out.trans lN)
  clear lN hY hnY hEY zY
  go_wp2_with fail
  have HSX := Lib.hid (show SInc X from HEX.out ▸ selL_inc la n)
  have HSY := Lib.hid (show SInc Y from HEY.out ▸ selL_inc lb m)
  have HLAW := Lib.hid (laws12 X Y N HSX.out HSY.out (fun z hz => by rw [← HEX.out] at hz; have := selL_lt la n z hz; omega) (fun z hz => by rw [← HEY.out] at hz; have := selL_lt lb m z hz; omega))
  refine (rest_any AX nX cX N X x2 HNX.out.symm (by have := HBX.out; have := HNX.out; omega) HHX.out).mono ?_
  rintro e x3 ⟨ARX, cRX, rfl, hRX, _, _, zRX, lN⟩
  obtain ⟨RX, hERX⟩ : ∃ x, restL X N = x := ⟨_, rfl⟩
  rw [hERX] at hRX ⊢
  have HBRX := Lib.hid (show RX.length ≤ 200 by rw [← hERX]; exact Nat.le_trans (rest_len _ _) (by omega))
  obtain ⟨nRX, hnRX⟩ : ∃ x, RX.length = x := ⟨_, rfl⟩
  have HNRX := Lib.hid hnRX
  rw [hnRX]
  have HERX := Lib.hid hERX
  have HHRX := Lib.hid hRX
  have HZRX := Lib.hid zRX
  have HHX := Lib.hid (HHX.out.later lN)
  have HHY := Lib.hid (HHY.out.later lN)
  have HLW := Lib.hid (HLW.out.trans lN)
  clear lN hRX hnRX hERX zRX
  go_wp2_with fail
  refine (rest_any AY nY cY N Y x3 HNY.out.symm (by have := HBY.out; have := HNY.out; omega) HHY.out).mono ?_
  rintro e x4 ⟨ARY, cRY, rfl, hRY, _, _, zRY, lN⟩
  obtain ⟨RY, hERY⟩ : ∃ x, restL Y N = x := ⟨_, rfl⟩
  rw [hERY] at hRY ⊢
  have HBRY := Lib.hid (show RY.length ≤ 200 by rw [← hERY]; exact Nat.le_trans (rest_len _ _) (by omega))
  obtain ⟨nRY, hnRY⟩ : ∃ x, RY.length = x := ⟨_, rfl⟩
  have HNRY := Lib.hid hnRY
  rw [hnRY]
  have HERY := Lib.hid hERY
  have HHRY := Lib.hid hRY
  have HZRY := Lib.hid zRY
  have HHX := Lib.hid (HHX.out.later lN)
  have HHY := Lib.hid (HHY.out.later lN)
  have HHRX := Lib.hid (HHRX.out.later lN)
  have HLW := Lib.hid (HLW.out.trans lN)
  clear lN hRY hnRY hERY zRY
  go_wp2_with fail
  have hbx : nX ≤ 30 := by have := HNX.out; have := HEX.out; have h := selL_len la n; rw [HEX.out] at h; omega
  have hby : nY ≤ 30 := by have := HNY.out; have h := selL_len lb m; rw [HEY.out] at h; omega
  have hbrx : nRX ≤ 30 := by have h := rest_len X N; rw [HERX.out] at h; have := HNRX.out; omega
  have hbry : nRY ≤ 30 := by have h := rest_len Y N; rw [HERY.out] at h; have := HNRY.out; omega
  refine (join_any AX AY nX cX nY cY X Y x4 HNX.out.symm HNY.out.symm (by have := HBX.out; have := HBY.out; have := HNX.out; have := HNY.out; omega) HHX.out HHY.out HZX.out HZY.out).mono ?_
  rintro e x5 ⟨AJ1, cJ1, rfl, hJ1, _, _, zJ1, lN⟩
  obtain ⟨J1, hEJ1⟩ : ∃ x, joinL X Y = x := ⟨_, rfl⟩
  rw [hEJ1] at hJ1 ⊢
  have HBJ1 := Lib.hid (show J1.length ≤ 200 by rw [← hEJ1]; have := join_len X Y; have := HNX.out; have := HNY.out; omega)
  obtain ⟨nJ1, hnJ1⟩ : ∃ x, J1.length = x := ⟨_, rfl⟩
  have HNJ1 := Lib.hid hnJ1
  rw [hnJ1]
  have HEJ1 := Lib.hid hEJ1
  have HHJ1 := Lib.hid hJ1
  have HZJ1 := Lib.hid zJ1
  have HHX := Lib.hid (HHX.out.later lN)
  have HHY := Lib.hid (HHY.out.later lN)
  have HHRX := Lib.hid (HHRX.out.later lN)
  have HHRY := Lib.hid (HHRY.out.later lN)
  have HLW := Lib.hid (HLW.out.trans lN)
  clear lN hJ1 hnJ1 hEJ1 zJ1
  go_wp2_with fail
  refine (rest_any AJ1 nJ1 cJ1 N J1 x5 HNJ1.out.symm (by have := HBJ1.out; have := HNJ1.out; omega) HHJ1.out).mono ?_
  rintro e x6 ⟨ARJ, cRJ, rfl, hRJ, _, _, zRJ, lN⟩
  obtain ⟨RJ, hERJ⟩ : ∃ x, restL J1 N = x := ⟨_, rfl⟩
  rw [hERJ] at hRJ ⊢
  have HBRJ := Lib.hid (show RJ.length ≤ 200 by rw [← hERJ]; exact Nat.le_trans (rest_len _ _) (by omega))
  obtain ⟨nRJ, hnRJ⟩ : ∃ x, RJ.length = x := ⟨_, rfl⟩
  have HNRJ := Lib.hid hnRJ
  rw [hnRJ]
  have HERJ := Lib.hid hERJ
  have HHRJ := Lib.hid hRJ
  have HZRJ := Lib.hid zRJ
  have HHX := Lib.hid (HHX.out.later lN)
  have HHY := Lib.hid (HHY.out.later lN)
  have HHRX := Lib.hid (HHRX.out.later lN)
  have HHRY := Lib.hid (HHRY.out.later lN)
  have HHJ1 := Lib.hid (HHJ1.out.later lN)
  have HLW := Lib.hid (HLW.out.trans lN)
  clear lN hRJ hnRJ hERJ zRJ
  go_wp2_with fail
  refine (meet_any ARX ARY nRX cRX nRY cRY RX RY x6 HNRX.out.symm HNRY.out.symm (by have := HBRX.out; have := HBRY.out; have := HNRX.out; have := HNRY.out; omega) HHRX.out HHRY.out).mono ?_
  rintro e x7 ⟨AM1, cM1, rfl, hM1, _, _, zM1, lN⟩
  obtain ⟨M1, hEM1⟩ : ∃ x, meetL RX RY = x := ⟨_, rfl⟩
  rw [hEM1] at hM1 ⊢
  have HBM1 := Lib.hid (show M1.length ≤ 200 by rw [← hEM1]; have := meet_len RX RY; have := HNRX.out; omega)
  obtain ⟨nM1, hnM1⟩ : ∃ x, M1.length = x := ⟨_, rfl⟩
  have HNM1 := Lib.hid hnM1
  rw [hnM1]
  have HEM1 := Lib.hid hEM1
  have HHM1 := Lib.hid hM1
  have HZM1 := Lib.hid zM1
  have HHX := Lib.hid (HHX.out.later lN)
  have HHY := Lib.hid (HHY.out.later lN)
  have HHRX := Lib.hid (HHRX.out.later lN)
  have HHRY := Lib.hid (HHRY.out.later lN)
  have HHJ1 := Lib.hid (HHJ1.out.later lN)
  have HHRJ := Lib.hid (HHRJ.out.later lN)
  have HLW := Lib.hid (HLW.out.trans lN)
  clear lN hM1 hnM1 hEM1 zM1
  go_wp2_with fail
  refine (sameInts_any ARJ AM1 nRJ nM1 cRJ cM1 RJ M1 x7 HNRJ.out.symm HNM1.out.symm HHRJ.out HHM1.out (by have := HBRJ.out; have := HNRJ.out; omega)).mono ?_
  intro e x8 h
  obtain ⟨rfl, lN⟩ := h.yes (by rw [← HERJ.out, ← HEM1.out, ← HEJ1.out, ← HERX.out, ← HERY.out]; exact HLAW.out.1)
  clear h
  have HHX := Lib.hid (HHX.out.later lN)
  have HHY := Lib.hid (HHY.out.later lN)
  have HHRX := Lib.hid (HHRX.out.later lN)
  have HHRY := Lib.hid (HHRY.out.later lN)
  have HHJ1 := Lib.hid (HHJ1.out.later lN)
  have HHRJ := Lib.hid (HHRJ.out.later lN)
  have HHM1 := Lib.hid (HHM1.out.later lN)
  have HLW := Lib.hid (HLW.out.trans lN)
  clear lN
  go_wp2_with fail
  refine (meet_any AX AY nX cX nY cY X Y x8 HNX.out.symm HNY.out.symm (by have := HBX.out; have := HBY.out; have := HNX.out; have := HNY.out; omega) HHX.out HHY.out).mono ?_
  rintro e x9 ⟨AM2, cM2, rfl, hM2, _, _, zM2, lN⟩
  obtain ⟨M2, hEM2⟩ : ∃ x, meetL X Y = x := ⟨_, rfl⟩
  rw [hEM2] at hM2 ⊢
  have HBM2 := Lib.hid (show M2.length ≤ 200 by rw [← hEM2]; have := meet_len X Y; have := HNX.out; omega)
  obtain ⟨nM2, hnM2⟩ : ∃ x, M2.length = x := ⟨_, rfl⟩
  have HNM2 := Lib.hid hnM2
  rw [hnM2]
  have HEM2 := Lib.hid hEM2
  have HHM2 := Lib.hid hM2
  have HZM2 := Lib.hid zM2
  have HHX := Lib.hid (HHX.out.later lN)
  have HHY := Lib.hid (HHY.out.later lN)
  have HHRX := Lib.hid (HHRX.out.later lN)
  have HHRY := Lib.hid (HHRY.out.later lN)
  have HHJ1 := Lib.hid (HHJ1.out.later lN)
  have HHRJ := Lib.hid (HHRJ.out.later lN)
  have HHM1 := Lib.hid (HHM1.out.later lN)
  have HLW := Lib.hid (HLW.out.trans lN)
  clear lN hM2 hnM2 hEM2 zM2
  go_wp2_with fail
  refine (rest_any AM2 nM2 cM2 N M2 x9 HNM2.out.symm (by have := HBM2.out; have := HNM2.out; omega) HHM2.out).mono ?_
  rintro e x10 ⟨ARM, cRM, rfl, hRM, _, _, zRM, lN⟩
  obtain ⟨RM, hERM⟩ : ∃ x, restL M2 N = x := ⟨_, rfl⟩
  rw [hERM] at hRM ⊢
  have HBRM := Lib.hid (show RM.length ≤ 200 by rw [← hERM]; exact Nat.le_trans (rest_len _ _) (by omega))
  obtain ⟨nRM, hnRM⟩ : ∃ x, RM.length = x := ⟨_, rfl⟩
  have HNRM := Lib.hid hnRM
  rw [hnRM]
  have HERM := Lib.hid hERM
  have HHRM := Lib.hid hRM
  have HZRM := Lib.hid zRM
  have HHX := Lib.hid (HHX.out.later lN)
  have HHY := Lib.hid (HHY.out.later lN)
  have HHRX := Lib.hid (HHRX.out.later lN)
  have HHRY := Lib.hid (HHRY.out.later lN)
  have HHJ1 := Lib.hid (HHJ1.out.later lN)
  have HHRJ := Lib.hid (HHRJ.out.later lN)
  have HHM1 := Lib.hid (HHM1.out.later lN)
  have HHM2 := Lib.hid (HHM2.out.later lN)
  have HLW := Lib.hid (HLW.out.trans lN)
  clear lN hRM hnRM hERM zRM
  go_wp2_with fail
  refine (join_any ARX ARY nRX cRX nRY cRY RX RY x10 HNRX.out.symm HNRY.out.symm (by have := HBRX.out; have := HBRY.out; have := HNRX.out; have := HNRY.out; omega) HHRX.out HHRY.out HZRX.out HZRY.out).mono ?_
  rintro e x11 ⟨AJ2, cJ2, rfl, hJ2, _, _, zJ2, lN⟩
  obtain ⟨J2, hEJ2⟩ : ∃ x, joinL RX RY = x := ⟨_, rfl⟩
  rw [hEJ2] at hJ2 ⊢
  have HBJ2 := Lib.hid (show J2.length ≤ 200 by rw [← hEJ2]; have := join_len RX RY; have := HNRX.out; have := HNRY.out; omega)
  obtain ⟨nJ2, hnJ2⟩ : ∃ x, J2.length = x := ⟨_, rfl⟩
  have HNJ2 := Lib.hid hnJ2
  rw [hnJ2]
  have HEJ2 := Lib.hid hEJ2
  have HHJ2 := Lib.hid hJ2
  have HZJ2 := Lib.hid zJ2
  have HHX := Lib.hid (HHX.out.later lN)
  have HHY := Lib.hid (HHY.out.later lN)
  have HHRX := Lib.hid (HHRX.out.later lN)
  have HHRY := Lib.hid (HHRY.out.later lN)
  have HHJ1 := Lib.hid (HHJ1.out.later lN)
  have HHRJ := Lib.hid (HHRJ.out.later lN)
  have HHM1 := Lib.hid (HHM1.out.later lN)
  have HHM2 := Lib.hid (HHM2.out.later lN)
  have HHRM := Lib.hid (HHRM.out.later lN)
  have HLW := Lib.hid (HLW.out.trans lN)
  clear lN hJ2 hnJ2 hEJ2 zJ2
  go_wp2_with fail
  refine (sameInts_any ARM AJ2 nRM nJ2 cRM cJ2 RM J2 x11 HNRM.out.symm HNJ2.out.symm HHRM.out HHJ2.out (by have := HBRM.out; have := HNRM.out; omega)).mono ?_
  intro e x12 h
  obtain ⟨rfl, lN⟩ := h.yes (by rw [← HERM.out, ← HEJ2.out, ← HEM2.out, ← HERX.out, ← HERY.out]; exact HLAW.out.2.1)
  clear h
  have HHX := Lib.hid (HHX.out.later lN)
  have HHY := Lib.hid (HHY.out.later lN)
  have HHRX := Lib.hid (HHRX.out.later lN)
  have HHRY := Lib.hid (HHRY.out.later lN)
  have HHJ1 := Lib.hid (HHJ1.out.later lN)
  have HHRJ := Lib.hid (HHRJ.out.later lN)
  have HHM1 := Lib.hid (HHM1.out.later lN)
  have HHM2 := Lib.hid (HHM2.out.later lN)
  have HHRM := Lib.hid (HHRM.out.later lN)
  have HHJ2 := Lib.hid (HHJ2.out.later lN)
  have HLW := Lib.hid (HLW.out.trans lN)
  clear lN
  go_wp2_with fail
  refine (rest_any ARX nRX cRX N RX x12 HNRX.out.symm (by have := HBRX.out; have := HNRX.out; omega) HHRX.out).mono ?_
  rintro e x13 ⟨ARR, cRR, rfl, hRR, _, _, zRR, lN⟩
  obtain ⟨RR, hERR⟩ : ∃ x, restL RX N = x := ⟨_, rfl⟩
  rw [hERR] at hRR ⊢
  have HBRR := Lib.hid (show RR.length ≤ 200 by rw [← hERR]; exact Nat.le_trans (rest_len _ _) (by omega))
  obtain ⟨nRR, hnRR⟩ : ∃ x, RR.length = x := ⟨_, rfl⟩
  have HNRR := Lib.hid hnRR
  rw [hnRR]
  have HERR := Lib.hid hERR
  have HHRR := Lib.hid hRR
  have HZRR := Lib.hid zRR
  have HHX := Lib.hid (HHX.out.later lN)
  have HHY := Lib.hid (HHY.out.later lN)
  have HHRX := Lib.hid (HHRX.out.later lN)
  have HHRY := Lib.hid (HHRY.out.later lN)
  have HHJ1 := Lib.hid (HHJ1.out.later lN)
  have HHRJ := Lib.hid (HHRJ.out.later lN)
  have HHM1 := Lib.hid (HHM1.out.later lN)
  have HHM2 := Lib.hid (HHM2.out.later lN)
  have HHRM := Lib.hid (HHRM.out.later lN)
  have HHJ2 := Lib.hid (HHJ2.out.later lN)
  have HLW := Lib.hid (HLW.out.trans lN)
  clear lN hRR hnRR hERR zRR
  go_wp2_with fail
  refine (sameInts_any ARR AX nRR nX cRR cX RR X x13 HNRR.out.symm HNX.out.symm HHRR.out HHX.out (by have := HBRR.out; have := HNRR.out; omega)).mono ?_
  intro e x14 h
  obtain ⟨rfl, lN⟩ := h.yes (by rw [← HERR.out, ← HERX.out]; exact HLAW.out.2.2.1)
  clear h
  have HHX := Lib.hid (HHX.out.later lN)
  have HHY := Lib.hid (HHY.out.later lN)
  have HHRX := Lib.hid (HHRX.out.later lN)
  have HHRY := Lib.hid (HHRY.out.later lN)
  have HHJ1 := Lib.hid (HHJ1.out.later lN)
  have HHRJ := Lib.hid (HHRJ.out.later lN)
  have HHM1 := Lib.hid (HHM1.out.later lN)
  have HHM2 := Lib.hid (HHM2.out.later lN)
  have HHRM := Lib.hid (HHRM.out.later lN)
  have HHJ2 := Lib.hid (HHJ2.out.later lN)
  have HHRR := Lib.hid (HHRR.out.later lN)
  have HLW := Lib.hid (HLW.out.trans lN)
  clear lN
  go_wp2_with fail
  have hz0 : ∀ l : List Int, meetL X RX = l → l.length = 0 := fun l e => by rw [← e, ← HERX.out, HLAW.out.2.2.2.1]; rfl
  have hzN : ∀ l : List Int, joinL X RX = l → l.length = N := fun l e => by rw [← e, ← HERX.out]; exact HLAW.out.2.2.2.2
  have HZ0 := Lib.hid hz0
  have HZN := Lib.hid hzN
  clear hz0 hzN
  refine (meet_any AX ARX nX cX nRX cRX X RX x14 HNX.out.symm HNRX.out.symm (by have := HBX.out; have := HBRX.out; have := HNX.out; have := HNRX.out; omega) HHX.out HHRX.out).mono ?_
  rintro e x15 ⟨AM3, cM3, rfl, hM3, _, _, zM3, lN⟩
  obtain ⟨M3, hEM3⟩ : ∃ x, meetL X RX = x := ⟨_, rfl⟩
  rw [hEM3] at hM3 ⊢
  have HBM3 := Lib.hid (show M3.length ≤ 200 by rw [← hEM3]; have := meet_len X RX; have := HNX.out; omega)
  obtain ⟨nM3, hnM3⟩ : ∃ x, M3.length = x := ⟨_, rfl⟩
  have HNM3 := Lib.hid hnM3
  rw [hnM3]
  have HEM3 := Lib.hid hEM3
  have HHM3 := Lib.hid hM3
  have HZM3 := Lib.hid zM3
  have HHX := Lib.hid (HHX.out.later lN)
  have HHY := Lib.hid (HHY.out.later lN)
  have HHRX := Lib.hid (HHRX.out.later lN)
  have HHRY := Lib.hid (HHRY.out.later lN)
  have HHJ1 := Lib.hid (HHJ1.out.later lN)
  have HHRJ := Lib.hid (HHRJ.out.later lN)
  have HHM1 := Lib.hid (HHM1.out.later lN)
  have HHM2 := Lib.hid (HHM2.out.later lN)
  have HHRM := Lib.hid (HHRM.out.later lN)
  have HHJ2 := Lib.hid (HHJ2.out.later lN)
  have HHRR := Lib.hid (HHRR.out.later lN)
  have HLW := Lib.hid (HLW.out.trans lN)
  clear lN hM3 hnM3 hEM3 zM3
  have e3 := HZ0.out M3 HEM3.out
  rw [HNM3.out] at e3
  subst e3
  go_wp2_with fail
  refine (join_any AX ARX nX cX nRX cRX X RX x15 HNX.out.symm HNRX.out.symm (by have := HBX.out; have := HBRX.out; have := HNX.out; have := HNRX.out; omega) HHX.out HHRX.out HZX.out HZRX.out).mono ?_
  rintro e x16 ⟨AJ3, cJ3, rfl, hJ3, _, _, zJ3, lN⟩
  obtain ⟨J3, hEJ3⟩ : ∃ x, joinL X RX = x := ⟨_, rfl⟩
  rw [hEJ3] at hJ3 ⊢
  have HBJ3 := Lib.hid (show J3.length ≤ 200 by rw [← hEJ3]; have := join_len X RX; have := HNX.out; have := HNRX.out; omega)
  obtain ⟨nJ3, hnJ3⟩ : ∃ x, J3.length = x := ⟨_, rfl⟩
  have HNJ3 := Lib.hid hnJ3
  rw [hnJ3]
  have HEJ3 := Lib.hid hEJ3
  have HHJ3 := Lib.hid hJ3
  have HZJ3 := Lib.hid zJ3
  have HHX := Lib.hid (HHX.out.later lN)
  have HHY := Lib.hid (HHY.out.later lN)
  have HHRX := Lib.hid (HHRX.out.later lN)
  have HHRY := Lib.hid (HHRY.out.later lN)
  have HHJ1 := Lib.hid (HHJ1.out.later lN)
  have HHRJ := Lib.hid (HHRJ.out.later lN)
  have HHM1 := Lib.hid (HHM1.out.later lN)
  have HHM2 := Lib.hid (HHM2.out.later lN)
  have HHRM := Lib.hid (HHRM.out.later lN)
  have HHJ2 := Lib.hid (HHJ2.out.later lN)
  have HHRR := Lib.hid (HHRR.out.later lN)
  have HHM3 := Lib.hid (HHM3.out.later lN)
  have HLW := Lib.hid (HLW.out.trans lN)
  clear lN hJ3 hnJ3 hEJ3 zJ3
  have e4 := HZN.out J3 HEJ3.out
  rw [HNJ3.out] at e4
  subst e4
  go_wp2_with fail
  go_ret
  exact ⟨by simp, HLW.out⟩
end Go.Proofs.YtlfmmhbaphnifaaRRRRDoor
