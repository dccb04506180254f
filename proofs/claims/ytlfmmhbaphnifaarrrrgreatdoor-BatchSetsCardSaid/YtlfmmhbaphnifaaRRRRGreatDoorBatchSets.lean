/- The walk of BatchSets. (tools/gen_bsets.py) -/
import Derived.Test.YtlfmmhbaphnifaaRRRRGreatDoorBeg12
import Derived.Test.YtlfmmhbaphnifaaRRRRGreatDoorSel
import Derived.Test.YtlfmmhbaphnifaaRRRRGreatDoorRJoin
namespace Go.Proofs.YtlfmmhbaphnifaaRRRRGreatDoor
open Go.RowKit
set_option linter.unusedVariables false

set_option maxRecDepth 100000 in
theorem batchSets_long (A : Option Addr) (n c : Nat) (B : Option Addr) (m d : Nat) (q : Int) (w : World) (hs : S12 w) (h : 30 < n ∨ 30 < m) :
    Calls Tryz.prog 4 #[.slice A n c, .slice B m d, .int .u8 q] w fun e w' => e = .returned (.bool true) ∧ Later w w' := by
  have HB := Lib.hid (begun12_any w hs)
  clear hs
  go_enter Tryz.func4, Tryz.ntmps4
  go_wp2_with fail
  refine HB.out.mono ?_
  rintro e w1 ⟨rfl, l1⟩
  have HL1 := Lib.hid l1
  clear l1 HB
  by_cases h1 : 30 < n
  · have hn30 : (30 : Int) < (n : Int) := by omega
    clear h h1
    go_wp2_with fail
    go_ret
    exact ⟨rfl, HL1.out⟩
  · have hn30 : ¬ (30 : Int) < (n : Int) := by omega
    have hm30 : (30 : Int) < (m : Int) := by omega
    clear h h1
    go_wp2_with fail
    go_ret
    exact ⟨rfl, HL1.out⟩
set_option maxRecDepth 100000 in
set_option maxHeartbeats 8000000 in
theorem batchSets_walk (A : Option Addr) (n c : Nat) (B : Option Addr) (m d : Nat) (la lb : List Bool) (q : Nat) (w : World) (hs : S12 w) (hn : n = la.length) (hm : m = lb.length) (hnl : n ≤ 30) (hml : m ≤ 30) (ha : Has w A (bools la)) (hb : Has w B (bools lb)) (hq : q < 256) :
    Calls Tryz.prog 4 #[.slice A n c, .slice B m d, .int .u8 q] w fun e w' => e = .returned (.bool true) ∧ Later w w' := by
  obtain ⟨kq, hkq⟩ : ∃ k, q % 40 = k := ⟨_, rfl⟩
  have hk40 : kq < 40 := hkq ▸ Nat.mod_lt _ (by omega)
  have hmz : (q : Int) % 40 = (kq : Int) := by rw [← hkq]; omega
  have hmx : (q : Int).tmod 40 = (kq : Int) := by rw [Int.tmod_eq_emod_of_nonneg (by omega)]; exact hmz
  have hwk : IntKind.u8.wrap (kq : Int) = (kq : Int) := by rw [IntKind.wrap_u8]; omega
  have hwi : IntKind.i64.wrap (kq : Int) = (kq : Int) := IntWalk.i64_in _ ⟨by omega, by omega⟩
  clear hkq
  have HB := Lib.hid (begun12_any w hs)
  have HA := Lib.hid ha
  have HBB := Lib.hid hb
  have HN := Lib.hid hn
  have HM := Lib.hid hm
  have hn30 : ¬ (30 : Int) < (n : Int) := by omega
  have hm30 : ¬ (30 : Int) < (m : Int) := by omega
  clear hs ha hb hn hm
  go_enter Tryz.func4, Tryz.ntmps4
  go_wp2_with fail
  refine HB.out.mono ?_
  rintro e w1 ⟨rfl, l1⟩
  have HLW := Lib.hid l1
  have HA := Lib.hid (HA.out.later l1)
  have HBB := Lib.hid (HBB.out.later l1)
  clear l1 HB
  go_wp2_with fail
  refine (sel_any A n c la w1 HN.out (by omega) HA.out).mono ?_
  rintro e x1 ⟨AX, cX, rfl, hX, _, _, zX, lN⟩
  obtain ⟨X, hEX⟩ : ∃ x, selL la n = x := ⟨_, rfl⟩
  rw [hEX] at hX ⊢
  have HBX := Lib.hid (show X.length ≤ 200 by rw [← hEX]; exact Nat.le_trans (selL_len _ _) (by omega))
  obtain ⟨nX, hnX⟩ : ∃ x, X.length = x := ⟨_, rfl⟩
  have HNX := Lib.hid hnX
  rw [hnX]
  have HEX := Lib.hid hEX
  have HHX := Lib.hid hX
  have HZX := Lib.hid zX
  have HLW := Lib.hid (HLW.out.trans lN)
  have HBB := Lib.hid (HBB.out.later lN)
  clear lN hX hnX hEX zX
  go_wp2_with fail
  refine (sel_any B m d lb x1 HM.out (by omega) HBB.out).mono ?_
  rintro e x2 ⟨AY, cY, rfl, hY, _, _, zY, lN⟩
  obtain ⟨Y, hEY⟩ : ∃ x, selL lb m = x := ⟨_, rfl⟩
  rw [hEY] at hY ⊢
  have HBY := Lib.hid (show Y.length ≤ 200 by rw [← hEY]; exact Nat.le_trans (selL_len _ _) (by omega))
  obtain ⟨nY, hnY⟩ : ∃ x, Y.length = x := ⟨_, rfl⟩
  have HNY := Lib.hid hnY
  rw [hnY]
  have HEY := Lib.hid hEY
  have HHY := Lib.hid hY
  have HZY := Lib.hid zY
  have HHX := Lib.hid (HHX.out.later lN)
  have HLW := Lib.hid (HLW.out.trans lN)
  clear lN hY hnY hEY zY
  go_wp2_with fail
  have HSX := Lib.hid (show SInc X from HEX.out ▸ selL_inc la n)
  have HSY := Lib.hid (show SInc Y from HEY.out ▸ selL_inc lb m)
  have hbx : nX ≤ 30 := by have := HNX.out; have := HEX.out; have h := selL_len la n; rw [HEX.out] at h; omega
  have hby : nY ≤ 30 := by have := HNY.out; have h := selL_len lb m; rw [HEY.out] at h; omega
  refine (meet_any AX AY nX cX nY cY X Y x2 HNX.out.symm HNY.out.symm (by have := HBX.out; have := HBY.out; have := HNX.out; have := HNY.out; omega) HHX.out HHY.out).mono ?_
  rintro e x3 ⟨AM1, cM1, rfl, hM1, _, _, zM1, lN⟩
  obtain ⟨M1, hEM1⟩ : ∃ x, meetL X Y = x := ⟨_, rfl⟩
  rw [hEM1] at hM1 ⊢
  have HBM1 := Lib.hid (show M1.length ≤ 200 by rw [← hEM1]; have := meet_len X Y; have := HNX.out; omega)
  obtain ⟨nM1, hnM1⟩ : ∃ x, M1.length = x := ⟨_, rfl⟩
  have HNM1 := Lib.hid hnM1
  rw [hnM1]
  have HEM1 := Lib.hid hEM1
  have HHM1 := Lib.hid hM1
  have HZM1 := Lib.hid zM1
  have HHX := Lib.hid (HHX.out.later lN)
  have HHY := Lib.hid (HHY.out.later lN)
  have HLW := Lib.hid (HLW.out.trans lN)
  clear lN hM1 hnM1 hEM1 zM1
  go_wp2_with fail
  refine (refMeet_any AX AY nX cX nY cY X Y x3 HNX.out.symm HNY.out.symm (by have := HBX.out; have := HNX.out; omega) (by have := HBY.out; have := HNY.out; omega) HHX.out HHY.out).mono ?_
  rintro e x4 ⟨AM2, cM2, rfl, hM2, _, _, zM2, lN⟩
  obtain ⟨M2, hEM2⟩ : ∃ x, meetR X Y = x := ⟨_, rfl⟩
  rw [hEM2] at hM2 ⊢
  have HBM2 := Lib.hid (show M2.length ≤ 200 by rw [← hEM2]; rw [← meetR_eq HSX.out]; have := meet_len X Y; have := HNX.out; omega)
  obtain ⟨nM2, hnM2⟩ : ∃ x, M2.length = x := ⟨_, rfl⟩
  have HNM2 := Lib.hid hnM2
  rw [hnM2]
  have HEM2 := Lib.hid hEM2
  have HHM2 := Lib.hid hM2
  have HZM2 := Lib.hid zM2
  have HHX := Lib.hid (HHX.out.later lN)
  have HHY := Lib.hid (HHY.out.later lN)
  have HHM1 := Lib.hid (HHM1.out.later lN)
  have HLW := Lib.hid (HLW.out.trans lN)
  clear lN hM2 hnM2 hEM2 zM2
  go_wp2_with fail
  refine (sameInts_any AM1 AM2 nM1 nM2 cM1 cM2 M1 M2 x4 HNM1.out.symm HNM2.out.symm HHM1.out HHM2.out (by have := HBM1.out; have := HNM1.out; omega)).mono ?_
  intro e x5 h
  obtain ⟨rfl, lN⟩ := h.yes (by rw [← HEM1.out, ← HEM2.out]; exact meetR_eq HSX.out)
  clear h
  have HHX := Lib.hid (HHX.out.later lN)
  have HHY := Lib.hid (HHY.out.later lN)
  have HHM1 := Lib.hid (HHM1.out.later lN)
  have HHM2 := Lib.hid (HHM2.out.later lN)
  have HLW := Lib.hid (HLW.out.trans lN)
  clear lN
  go_wp2_with fail
  refine (join_any AX AY nX cX nY cY X Y x5 HNX.out.symm HNY.out.symm (by have := HBX.out; have := HBY.out; have := HNX.out; have := HNY.out; omega) HHX.out HHY.out HZX.out HZY.out).mono ?_
  rintro e x6 ⟨AJ1, cJ1, rfl, hJ1, _, _, zJ1, lN⟩
  obtain ⟨J1, hEJ1⟩ : ∃ x, joinL X Y = x := ⟨_, rfl⟩
  rw [hEJ1] at hJ1 ⊢
  have HBJ1 := Lib.hid (show J1.length ≤ 200 by rw [← hEJ1]; have := join_len X Y; have := HNX.out; have := HNY.out; omega)
  obtain ⟨nJ1, hnJ1⟩ : ∃ x, J1.length = x := ⟨_, rfl⟩
  have HNJ1 := Lib.hid hnJ1
  rw [hnJ1]
  have HEJ1 := Lib.hid hEJ1
  have HHJ1 := Lib.hid hJ1
  have HZJ1 := Lib.hid zJ1
  have HHX := Lib.hid (HHX.out.later lN)
  have HHY := Lib.hid (HHY.out.later lN)
  have HHM1 := Lib.hid (HHM1.out.later lN)
  have HHM2 := Lib.hid (HHM2.out.later lN)
  have HLW := Lib.hid (HLW.out.trans lN)
  clear lN hJ1 hnJ1 hEJ1 zJ1
  go_wp2_with fail
  refine (refJoin_any AX AY nX cX nY cY X Y x6 HNX.out.symm HNY.out.symm (by have := HBX.out; have := HNX.out; omega) (by have := HBY.out; have := HNY.out; omega) HHX.out HHY.out HZX.out).mono ?_
  rintro e x7 ⟨AJ2, cJ2, rfl, hJ2, _, _, zJ2, lN⟩
  obtain ⟨J2, hEJ2⟩ : ∃ x, joinR X Y = x := ⟨_, rfl⟩
  rw [hEJ2] at hJ2 ⊢
  have HBJ2 := Lib.hid (show J2.length ≤ 200 by rw [← hEJ2]; rw [← joinR_eq HSX.out HSY.out]; have := join_len X Y; have := HNX.out; have := HNY.out; omega)
  obtain ⟨nJ2, hnJ2⟩ : ∃ x, J2.length = x := ⟨_, rfl⟩
  have HNJ2 := Lib.hid hnJ2
  rw [hnJ2]
  have HEJ2 := Lib.hid hEJ2
  have HHJ2 := Lib.hid hJ2
  have HZJ2 := Lib.hid zJ2
  have HHX := Lib.hid (HHX.out.later lN)
  have HHY := Lib.hid (HHY.out.later lN)
  have HHM1 := Lib.hid (HHM1.out.later lN)
  have HHM2 := Lib.hid (HHM2.out.later lN)
  have HHJ1 := Lib.hid (HHJ1.out.later lN)
  have HLW := Lib.hid (HLW.out.trans lN)
  clear lN hJ2 hnJ2 hEJ2 zJ2
  go_wp2_with fail
  refine (sameInts_any AJ1 AJ2 nJ1 nJ2 cJ1 cJ2 J1 J2 x7 HNJ1.out.symm HNJ2.out.symm HHJ1.out HHJ2.out (by have := HBJ1.out; have := HNJ1.out; omega)).mono ?_
  intro e x8 h
  obtain ⟨rfl, lN⟩ := h.yes (by rw [← HEJ1.out, ← HEJ2.out]; exact joinR_eq HSX.out HSY.out)
  clear h
  have HHX := Lib.hid (HHX.out.later lN)
  have HHY := Lib.hid (HHY.out.later lN)
  have HHM1 := Lib.hid (HHM1.out.later lN)
  have HHM2 := Lib.hid (HHM2.out.later lN)
  have HHJ1 := Lib.hid (HHJ1.out.later lN)
  have HHJ2 := Lib.hid (HHJ2.out.later lN)
  have HLW := Lib.hid (HLW.out.trans lN)
  clear lN
  go_wp2_with fail
  refine (rest_any AX nX cX kq X x8 HNX.out.symm (by have := HBX.out; have := HNX.out; omega) HHX.out).mono ?_
  rintro e x9 ⟨AR1, cR1, rfl, hR1, _, _, zR1, lN⟩
  obtain ⟨R1, hER1⟩ : ∃ x, restL X kq = x := ⟨_, rfl⟩
  rw [hER1] at hR1 ⊢
  have HBR1 := Lib.hid (show R1.length ≤ 200 by rw [← hER1]; exact Nat.le_trans (rest_len _ _) (by omega))
  obtain ⟨nR1, hnR1⟩ : ∃ x, R1.length = x := ⟨_, rfl⟩
  have HNR1 := Lib.hid hnR1
  rw [hnR1]
  have HER1 := Lib.hid hER1
  have HHR1 := Lib.hid hR1
  have HZR1 := Lib.hid zR1
  have HHX := Lib.hid (HHX.out.later lN)
  have HHY := Lib.hid (HHY.out.later lN)
  have HHM1 := Lib.hid (HHM1.out.later lN)
  have HHM2 := Lib.hid (HHM2.out.later lN)
  have HHJ1 := Lib.hid (HHJ1.out.later lN)
  have HHJ2 := Lib.hid (HHJ2.out.later lN)
  have HLW := Lib.hid (HLW.out.trans lN)
  clear lN hR1 hnR1 hER1 zR1
  go_wp2_with fail
  refine (refRest_any AX nX cX kq X x9 HNX.out.symm (by have := HBX.out; have := HNX.out; omega) (by omega) HHX.out).mono ?_
  rintro e x10 ⟨AR2, cR2, rfl, hR2, _, _, zR2, lN⟩
  obtain ⟨R2, hER2⟩ : ∃ x, restR X kq = x := ⟨_, rfl⟩
  rw [hER2] at hR2 ⊢
  have HBR2 := Lib.hid (show R2.length ≤ 200 by rw [← hER2]; rw [← restR_eq]; exact Nat.le_trans (rest_len _ _) (by omega))
  obtain ⟨nR2, hnR2⟩ : ∃ x, R2.length = x := ⟨_, rfl⟩
  have HNR2 := Lib.hid hnR2
  rw [hnR2]
  have HER2 := Lib.hid hER2
  have HHR2 := Lib.hid hR2
  have HZR2 := Lib.hid zR2
  have HHX := Lib.hid (HHX.out.later lN)
  have HHY := Lib.hid (HHY.out.later lN)
  have HHM1 := Lib.hid (HHM1.out.later lN)
  have HHM2 := Lib.hid (HHM2.out.later lN)
  have HHJ1 := Lib.hid (HHJ1.out.later lN)
  have HHJ2 := Lib.hid (HHJ2.out.later lN)
  have HHR1 := Lib.hid (HHR1.out.later lN)
  have HLW := Lib.hid (HLW.out.trans lN)
  clear lN hR2 hnR2 hER2 zR2
  go_wp2_with fail
  refine (sameInts_any AR1 AR2 nR1 nR2 cR1 cR2 R1 R2 x10 HNR1.out.symm HNR2.out.symm HHR1.out HHR2.out (by have := HBR1.out; have := HNR1.out; omega)).mono ?_
  intro e x11 h
  obtain ⟨rfl, lN⟩ := h.yes (by rw [← HER1.out, ← HER2.out]; exact restR_eq X kq)
  clear h
  have HHX := Lib.hid (HHX.out.later lN)
  have HHY := Lib.hid (HHY.out.later lN)
  have HHM1 := Lib.hid (HHM1.out.later lN)
  have HHM2 := Lib.hid (HHM2.out.later lN)
  have HHJ1 := Lib.hid (HHJ1.out.later lN)
  have HHJ2 := Lib.hid (HHJ2.out.later lN)
  have HHR1 := Lib.hid (HHR1.out.later lN)
  have HHR2 := Lib.hid (HHR2.out.later lN)
  have HLW := Lib.hid (HLW.out.trans lN)
  clear lN
  go_wp2_with fail
  go_ret
  exact ⟨by simp, HLW.out⟩
end Go.Proofs.YtlfmmhbaphnifaaRRRRGreatDoor
